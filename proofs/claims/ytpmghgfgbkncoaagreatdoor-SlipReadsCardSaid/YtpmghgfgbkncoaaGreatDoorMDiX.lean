/- Directives, plain: the text with another size. -/
import Derived.Test.YtpmghgfgbkncoaaGreatDoorMGen
import Derived.Test.YtpmghgfgbkncoaaGreatDoorSlO
import Derived.Test.YtpmghgfgbkncoaaGreatDoorFiM
import Derived.Maps.RangeWalk
import Derived.Maps.OwnSet
import Derived.Carry
import Derived.Maps.OwnOps
import Derived.Deep.LoopGhost
import Derived.BigQuiet
import Derived.Deep.DeepCutAuto
import Derived.Deep.CutBlock
import Derived.Laws.StructEq
section
set_option linter.unusedVariables false
namespace Go.Proofs.YtpmghgfgbkncoaaGreatDoor.di
open Go.Proofs.YtpmghgfgbkncoaaGreatDoor.un
open Go.Lib (decDigits)

theorem neat_at : ∀ (l : Tx) (p : UInt8), neat p l = true → ∀ (i : Nat) (h : i < l.length), l[i] ≠ 10 ∧ (∀ j, i = j + 1 → l[i] = 32 → ∀ hj : j < l.length, l[j] ≠ 32)
  | [], p, _, i, h => by simp at h
  | b :: r, p, hn, i, h => by
    rw [neat, Bool.and_eq_true, Bool.and_eq_true] at hn
    obtain ⟨⟨h1, h2⟩, h3⟩ := hn
    cases i with
    | zero => exact ⟨by simpa using h1, fun j hj => by omega⟩
    | succ i =>
      have hi : i < r.length := by simpa using h
      have ih := neat_at r b h3 i hi
      refine ⟨ih.1, fun j hj => ?_⟩
      obtain rfl : i = j := by omega
      intro hb hj2
      cases i with
      | zero =>
        show b ≠ 32
        cases r with
        | nil => simp at hi
        | cons c r =>
          have hc : c = 32 := hb
          rw [neat, Bool.and_eq_true, Bool.and_eq_true] at h3
          intro e
          have := h3.1.2
          simp [hc, e] at this
      | succ i =>
        have := ih.2 i rfl hb (by omega)
        exact this

def capE : Tx := [99, 97, 112, 97, 99, 105, 116, 121, 61]
def sizE : Tx := [115, 105, 122, 101, 61]
/-- A word with another size. -/
def sub (kib w : Tx) : Tx := if 9 < w.length ∧ w.take 9 = capE then capE ++ kib else if 5 < w.length ∧ w.take 5 = sizE then sizE ++ kib else w
theorem sub_other {kib w : Tx} (h1 : w.take 9 ≠ capE) (h2 : w.take 5 ≠ sizE) : sub kib w = w := by
  unfold sub
  rw [if_neg fun h => h1 h.2, if_neg fun h => h2 h.2]
theorem sub_head {kib w : Tx} {b : UInt8} (hb : w.head? = some b) (h1 : b ≠ 99) (h2 : b ≠ 115) : sub kib w = w := by
  cases w with
  | nil => simp at hb
  | cons c r =>
    have : c = b := by simpa using hb
    subst this
    refine sub_other (fun h => ?_) (fun h => ?_)
    · have : c = 99 := by
        have := congrArg List.head? h
        simpa [capE] using this
      exact h1 this
    · have : c = 115 := by
        have := congrArg List.head? h
        simpa [sizE] using this
      exact h2 this
theorem sub_kw {kib : Tx} {k : Nat} (h : 1 ≤ k ∧ k ≤ 6) : sub kib (kw k) = kw k := by
  rcases six h with rfl | rfl | rfl | rfl | rfl | rfl <;> exact sub_other (by decide) (by decide)
theorem sub_bb (kib : Tx) : sub kib bbW = bbW := sub_other (by decide) (by decide)
theorem sub_cap {kib sv : Tx} (h : sv ≠ []) : sub kib (wtx (capK, sv)) = wtx (capK, kib) := by
  have hl : 0 < sv.length := List.length_pos_iff.2 h
  unfold sub
  rw [if_pos]
  · rfl
  · constructor
    · show 9 < (capK ++ 61 :: sv).length
      simp [capK]
      omega
    · rfl
theorem sub_siz {kib sv : Tx} (h : sv ≠ []) : sub kib (wtx (sizeK, sv)) = wtx (sizeK, kib) := by
  have hl : 0 < sv.length := List.length_pos_iff.2 h
  unfold sub
  rw [if_neg, if_pos]
  · rfl
  · constructor
    · show 5 < (sizeK ++ 61 :: sv).length
      simp [sizeK]
      omega
    · rfl
  · rintro ⟨_, h9⟩
    have := congrArg List.head? h9
    simp [wtx, sizeK, capE] at this
theorem stxt_ne {n : Int} (h : 0 < n ∧ n ≤ 1099511627776) : stxt n ≠ [] := by
  obtain ⟨m, rfl⟩ : ∃ m : Nat, n = (m : Int) := ⟨n.toNat, by omega⟩
  intro e
  have := size_stxt (n := m) (by unfold top; omega)
  rw [e, size_nil] at this
  cases this
/-- The words of a directive's text, each with another size, are those of the other text. -/
theorem sub_words {d : Dir} (h : chk d = true) (hs : hasSize d.kind = true) (kib : Tx) : ((bbW :: kw d.kind :: (fsOf d (stxt d.size)).map wtx).map (sub kib)) = bbW :: kw d.kind :: (fsOf d kib).map wtx := by
  obtain ⟨c0, c1, cz, c2, c3, c4, c5, c6⟩ := (chk_iff d).1 h
  have hz := stxt_ne (n := d.size) ⟨c1.1 hs, cz.2⟩
  rw [List.map_cons, List.map_cons, sub_bb, sub_kw c0]
  congr 2
  have hn : sub kib (wtx (nameK, d.name)) = wtx (nameK, d.name) := sub_head (b := 110) rfl (by decide) (by decide)
  have hp : sub kib (wtx (poolK, d.pool)) = wtx (poolK, d.pool) := sub_head (b := 112) rfl (by decide) (by decide)
  have ha : sub kib (wtx (accK, pubV)) = wtx (accK, pubV) := sub_head (b := 97) rfl (by decide) (by decide)
  have hsz : sub kib (wtx (szK d.kind, stxt d.size)) = wtx (szK d.kind, kib) := by
    rcases szK_cases d.kind with e | e <;> rw [e]
    · exact sub_cap hz
    · exact sub_siz hz
  unfold fsOf
  cases hasName d.kind <;> cases hasPool d.kind <;> cases d.opn <;> simp [hs, hn, hp, ha, hsz]
theorem words_dtx {d : Dir} (h : chk d = true) : words (dtx d) = bbW :: kw d.kind :: (fsOf d (stxt d.size)).map wtx := by
  have hm := made_text h
  exact words_line ((chk_iff d).1 h).1 (fun f hf => (hm.wtx hf).1.1)
/-- What DirectSizes writes. -/
def kibT (d : Dir) : Tx := decDigits d.size.toNat ++ nm 3
theorem kib_line {d : Dir} (h : chk d = true) (h0 : 0 < d.size) (h1 : d.size ≤ 1073741824) : hasSize d.kind = true ∧ joinW ((words (dtx d)).map (sub (kibT d))) = lineOf d.kind (fsOf d (kibT d)) ∧ ldir (lineOf d.kind (fsOf d (kibT d))) = { d with size := d.size * 1024 } ∧ lerr (lineOf d.kind (fsOf d (kibT d))) = 0 := by
  obtain ⟨c0, c1, cz, c2, c3, c4, c5, c6⟩ := (chk_iff d).1 h
  have hs := c1.2 h0
  have hr := kib_read h hs h1
  have hl := (made_kib h h1).len
  refine ⟨hs, by rw [words_dtx h, sub_words h hs]; rfl, ?_⟩
  have hl5 : (lineOf d.kind (fsOf d (kibT d))).length ≤ 500 := Nat.le_trans hl (by decide)
  have hl6 : ¬ 500 < (lineOf d.kind (fsOf d (kibT d))).length := by omega
  unfold ldir lerr
  rw [if_neg hl6, if_neg hl6, show line? (lineOf d.kind (fsOf d (kibT d))) = _ from hr]
  exact ⟨rfl, rfl⟩
theorem txt_kib {d : Dir} (h0 : 0 < d.size) (h1 : d.size ≤ 1073741824) : txt d.size ++ nm 3 = kibT d := by
  obtain ⟨m, hm⟩ : ∃ m : Nat, d.size = (m : Int) := ⟨d.size.toNat, by omega⟩
  unfold kibT
  rw [hm, txt_in (show m ≤ 1099511627776 by omega)]
  rfl
/-- The words of a text that is a directive's: few, and short. -/
theorem words_few {d : Dir} (h : chk d = true) : (words (dtx d)).length ≤ 6 ∧ ∀ x ∈ words (dtx d), x.length ≤ 50 := by
  have hm := made_text h
  rw [words_dtx h]
  constructor
  · have h4 : (fsOf d (stxt d.size)).length ≤ 4 := by
      unfold fsOf
      cases hasName d.kind <;> cases hasSize d.kind <;> cases hasPool d.kind <;> cases d.opn <;> simp
    simp
    omega
  · intro x hx
    rcases List.mem_cons.1 hx with rfl | hx
    · decide
    rcases List.mem_cons.1 hx with rfl | hx
    · exact kw_len ((chk_iff d).1 h).1
    obtain ⟨f, hf, rfl⟩ := List.mem_map.1 hx
    exact (hm.wtx hf).2.2
theorem sub_len {kib w : Tx} (hk : kib.length ≤ 40) (hw : w.length ≤ 50) : (sub kib w).length ≤ 50 := by
  unfold sub
  split
  · simp [capE]; omega
  split
  · simp [sizE]; omega
  · exact hw
end Go.Proofs.YtpmghgfgbkncoaaGreatDoor.di
end
section
set_option linter.unusedVariables false
namespace Go.Proofs.YtpmghgfgbkncoaaGreatDoor.sp
open Go.Proofs.YtpmghgfgbkncoaaGreatDoor.un
open Go.Proofs.YtpmghgfgbkncoaaGreatDoor.di

theorem small_kinds (x : Slip) (hm : ∀ d ∈ x.make, d.kind = 4) : ((dirsS x).filter fun d => decide (d.kind ≤ 3)).map (·.kind) = (if 0 < x.cap then [1] else []) ++ (if 0 < x.inn then [2] else []) ++ (if 0 < x.out then [3] else []) := by
  have h1 : x.make.filter (fun d => decide (d.kind ≤ 3)) = [] := List.filter_eq_nil_iff.2 fun d hd => by simp [hm d hd]
  have h2 : (x.drop.map fun n => (⟨5, n, [], 0, false⟩ : Dir)).filter (fun d => decide (d.kind ≤ 3)) = [] := List.filter_eq_nil_iff.2 fun d hd => by
    obtain ⟨n, _, rfl⟩ := List.mem_map.1 hd
    simp
  have h3 : (x.use.map fun n => (⟨6, n, [], 0, false⟩ : Dir)).filter (fun d => decide (d.kind ≤ 3)) = [] := List.filter_eq_nil_iff.2 fun d hd => by
    obtain ⟨n, _, rfl⟩ := List.mem_map.1 hd
    simp
  unfold dirsS
  rw [List.filter_append, List.filter_append, List.filter_append, List.filter_append, List.filter_append, h1, h2, h3]
  split <;> split <;> split <;> rfl
theorem small_nodup (x : Slip) (hm : ∀ d ∈ x.make, d.kind = 4) : (((dirsS x).filter fun d => decide (d.kind ≤ 3)).map (·.kind)).Nodup := by
  rw [small_kinds x hm]
  split <;> split <;> split <;> decide
theorem once_dirs {x : Slip} (h : Ok x) : Once [] (dirsS x) := once_of _ _ (small_nodup x fun d hd => (h.make d hd).1) (fun _ _ _ => List.not_mem_nil)
theorem once_rev {x : Slip} (h : Ok x) : Once [] (dirsS x).reverse := by
  refine once_of _ _ ?_ (fun _ _ _ => List.not_mem_nil)
  rw [List.filter_reverse, List.map_reverse]
  exact (List.reverse_perm _).nodup_iff.2 (small_nodup x fun d hd => (h.make d hd).1)
theorem no_join {c b : UInt8} (hc : b ≠ c) : ∀ (L : List Tx), (∀ w ∈ L, b ∉ w) → b ∉ joinC c L
  | [], _ => by simp [joinC]
  | [a], h => h a (by simp)
  | a :: d :: r, h => by
    rw [joinC_cons c a (by simp)]
    intro hm
    rcases List.mem_append.1 hm with hm | hm
    · exact h a (by simp) hm
    rcases List.mem_cons.1 hm with e | hm
    · exact hc e
    · exact no_join hc (d :: r) (fun w hw => h w (by simp [hw])) hm
theorem dtx_lf {d : Dir} (h : chk d = true) : (10 : UInt8) ∉ dtx d := fun hm => by
  obtain ⟨i, hi, e⟩ := List.getElem_of_mem hm
  exact (neat_at (dtx d) 0 (text_neat h 0) i hi).1 e
theorem line1_lf {x : Slip} (h : Ok x) : (10 : UInt8) ∉ line1 x := by
  unfold line1
  refine no_join (by decide) _ fun w hw => ?_
  rcases List.mem_cons.1 hw with rfl | hw
  · decide
  · obtain ⟨f, hf, rfl⟩ := List.mem_map.1 hw
    exact (fsS_mem h hf).1.2
theorem dep_len (d : Int × Bool) : (depT d).length ≤ 17 := by
  have := txt_len d.1
  unfold depT
  rw [List.length_append, List.length_cons]
  have : (if d.2 = true then anyW else okW).length ≤ 3 := by split <;> decide
  omega
theorem line1_len {x : Slip} (h : Ok x) : (line1 x).length ≤ 1206 := by
  have hn := name_len h.user
  have hl := joinC_len 32 (jobW :: (fsS x).map wtx) 200 fun w hw => by
    rcases List.mem_cons.1 hw with rfl | hw
    · decide
    obtain ⟨f, hf, rfl⟩ := List.mem_map.1 hw
    unfold wtx
    rw [List.length_append, List.length_cons]
    unfold fsS at hf
    rcases List.mem_append.1 hf with hf | hf
    · rcases List.mem_append.1 hf with hf | hf
      · simp only [List.mem_cons, List.not_mem_nil, or_false] at hf
        rcases hf with rfl | rfl | rfl
        · show userK.length + _ ≤ 200
          simp only [userK, List.length_cons, List.length_nil]
          omega
        · have := txt_len x.nodes
          simp only [nodesK, List.length_cons, List.length_nil]
          omega
        · have := txt_len x.wall
          simp only [wallK, List.length_cons, List.length_nil]
          omega
      · split at hf
        · simp only [List.mem_cons, List.not_mem_nil, or_false] at hf
          subst hf
          have := txt_len x.qos
          simp only [qosK, List.length_cons, List.length_nil]
          omega
        · simp at hf
    · split at hf
      · simp at hf
      · simp only [List.mem_cons, List.not_mem_nil, or_false] at hf
        subst hf
        have h1 := joinC_len 44 (x.after.map depT) 17 fun w hw => by
          obtain ⟨d, _, rfl⟩ := List.mem_map.1 hw
          exact dep_len d
        rw [List.length_map] at h1
        have h2 := h.after.1
        simp only [afterK, List.length_cons, List.length_nil]
        omega
  have h5 : (fsS x).length ≤ 5 := by
    unfold fsS
    split <;> split <;> simp
  rw [List.length_cons, List.length_map] at hl
  unfold line1
  omega
theorem dirs_count {x : Slip} (h : Ok x) : (dirsS x).length ≤ 15 := by
  have h1 := h.makeN.1
  have h2 := h.drop.1
  have h3 := h.use.1
  rw [List.length_map] at h1
  unfold dirsS
  simp only [List.length_append, List.length_map]
  split <;> split <;> split <;> simp <;> omega
theorem join_two (c : UInt8) (a : Tx) (L : List Tx) (m : Nat) (h : ∀ w ∈ L, w.length ≤ m) : (joinC c (a :: L)).length ≤ a.length + 1 + L.length * (m + 1) := by
  cases L with
  | nil =>
    show a.length ≤ _
    omega
  | cons b r =>
    have := joinC_len c (b :: r) m h
    rw [joinC_cons c a (by simp), List.length_append, List.length_cons]
    omega
/-- A text of the first line and some lines is read as the slip, where their directives, put one after another, give it. -/
theorem sread_lines {x : Slip} (h : Ok x) (L : List Tx) (hf : (dirLines L).foldl put (head1 x) = x) (ho : Once [] (dirLines L)) (h10 : ∀ l ∈ L, (10 : UInt8) ∉ l) (he : ∀ l ∈ L, isD l = true → lerr l = 0) (hl : (joinC 10 (line1 x :: L)).length ≤ 10000) : sread (joinC 10 (line1 x :: L)) = (x, 0, 0) := by
  obtain ⟨s', hr⟩ := lrun_lines L (head1 x) [] 2 he ho
  unfold sread
  rw [if_neg (by omega), cuts_join 10 _ (by simp) (fun w hw => by
    rcases List.mem_cons.1 hw with rfl | hw
    · exact line1_lf h
    · exact h10 w hw)]
  dsimp only
  rw [first_read h]
  dsimp only
  rw [hr]
  dsimp only
  rw [hf, if_pos ((chkS_iff x).2 h)]
theorem txtS_len {x : Slip} (h : Ok x) : (txtS x).length ≤ 5812 := by
  have h1 := join_two 10 (line1 x) ((dirsS x).map dtx) 306 fun w hw => by
    obtain ⟨d, hd, rfl⟩ := List.mem_map.1 hw
    exact (made_text (dirs_mem h hd)).len
  have h2 := line1_len h
  have h3 := dirs_count h
  rw [List.length_map] at h1
  unfold txtS
  omega
theorem dirs_lines {x : Slip} (h : Ok x) {l : Tx} (hl : l ∈ (dirsS x).map dtx) : (10 : UInt8) ∉ l ∧ (isD l = true → lerr l = 0) := by
  obtain ⟨d, hd, rfl⟩ := List.mem_map.1 hl
  exact ⟨dtx_lf (dirs_mem h hd), fun _ => (dtx_line (dirs_mem h hd)).2.1⟩
theorem read_text {x : Slip} (h : Ok x) : sread (txtS x) = (x, 0, 0) := by
  have hd := dirLines_dtx (dirsS x) fun d hd => dirs_mem h hd
  refine sread_lines h _ (by rw [hd]; exact fold_dirs h) (by rw [hd]; exact once_dirs h) (fun l hl => (dirs_lines h hl).1) (fun l hl => (dirs_lines h hl).2) ?_
  have := txtS_len h
  unfold txtS at this
  omega
theorem cuts_txt {x : Slip} (h : Ok x) : cuts 10 (txtS x) = line1 x :: (dirsS x).map dtx := by
  unfold txtS
  refine cuts_join 10 _ (by simp) fun w hw => ?_
  rcases List.mem_cons.1 hw with rfl | hw
  · exact line1_lf h
  · exact (dirs_lines h hw).1
/-! ### lines between; another order -/
theorem put_out : ∀ (L : List Dir) (x : Slip) (d : Dir), (∀ e ∈ L, d.kind ≠ e.kind) → L.foldl put (put x d) = put (L.foldl put x) d
  | [], _, _, _ => rfl
  | e :: r, x, d, h => by
    rw [List.foldl_cons, List.foldl_cons, put_comm x d e (h e (by simp)), put_out r _ d fun y hy => h y (by simp [hy])]
theorem fold_rev : ∀ (L : List Dir) (x : Slip), (L.map (·.kind)).Nodup → L.reverse.foldl put x = L.foldl put x
  | [], _, _ => rfl
  | d :: r, x, h => by
    rw [List.map_cons, List.nodup_cons] at h
    rw [List.reverse_cons, List.foldl_append, fold_rev r x h.2]
    exact (put_out r x d fun e he hk => h.1 (List.mem_map.2 ⟨e, he, hk.symm⟩)).symm
theorem kinds_nodup {x : Slip} (h : Ok x) (hm : x.make.length ≤ 1) (hd : x.drop.length ≤ 1) (hu : x.use.length ≤ 1) : ((dirsS x).map (·.kind)).Nodup := by
  have e1 : x.make.map (·.kind) = [] ∨ x.make.map (·.kind) = [4] := by
    cases hx : x.make with
    | nil => exact .inl rfl
    | cons a r =>
      rw [hx] at hm
      have hr : r = [] := List.eq_nil_of_length_eq_zero (by rw [List.length_cons] at hm; omega)
      subst hr
      exact .inr (by simp [(h.make a (by rw [hx]; simp)).1])
  have e2 : x.drop.map (fun _ => 5) = [] ∨ x.drop.map (fun _ => 5) = [5] := by
    cases hx : x.drop with
    | nil => exact .inl rfl
    | cons a r =>
      rw [hx] at hd
      have hr : r = [] := List.eq_nil_of_length_eq_zero (by rw [List.length_cons] at hd; omega)
      subst hr
      exact .inr rfl
  have e3 : x.use.map (fun _ => 6) = [] ∨ x.use.map (fun _ => 6) = [6] := by
    cases hx : x.use with
    | nil => exact .inl rfl
    | cons a r =>
      rw [hx] at hu
      have hr : r = [] := List.eq_nil_of_length_eq_zero (by rw [List.length_cons] at hu; omega)
      subst hr
      exact .inr rfl
  unfold dirsS
  simp only [List.map_append, List.map_map, Function.comp_def]
  rcases e1 with e1 | e1 <;> rcases e2 with e2 | e2 <;> rcases e3 with e3 | e3 <;> rw [e1, e2, e3] <;> split <;> split <;> split <;> first | decide | (simp only [List.map_cons, List.map_nil]; decide)
theorem read_rev {x : Slip} (h : Ok x) (hm : x.make.length ≤ 1) (hd : x.drop.length ≤ 1) (hu : x.use.length ≤ 1) : sread (joinC 10 (line1 x :: ((dirsS x).map dtx).reverse)) = (x, 0, 0) := by
  have hr : dirLines ((dirsS x).map dtx).reverse = (dirsS x).reverse := by
    rw [← List.map_reverse]
    exact dirLines_dtx _ fun d hd => dirs_mem h (by simpa using hd)
  refine sread_lines h _ (by rw [hr, fold_rev _ _ (kinds_nodup h hm hd hu)]; exact fold_dirs h) (by rw [hr]; exact once_rev h) (fun l hl => (dirs_lines h (by simpa using hl)).1) (fun l hl => (dirs_lines h (by simpa using hl)).2) ?_
  have h1 := join_two 10 (line1 x) ((dirsS x).map dtx).reverse 306 fun w hw => by
    obtain ⟨d, hd, rfl⟩ := List.mem_map.1 (by simpa using hw : w ∈ (dirsS x).map dtx)
    exact (made_text (dirs_mem h hd)).len
  have h2 := line1_len h
  have h3 := dirs_count h
  rw [List.length_reverse, List.length_map] at h1
  omega
theorem isD_head {l : Tx} (h : l.head? ≠ some 35) : ¬ isD l = true := by
  cases l with
  | nil => decide
  | cons b r =>
    have hb : b ≠ 35 := fun e => h (by rw [e]; rfl)
    unfold isD
    rw [decide_eq_false (by unfold bbW; intro e; exact hb (by injection e)), Bool.false_or, List.isPrefixOf]
    simp [Ne.symm hb]
/-- With a line put among the others, and one behind them. -/
theorem read_more {x : Slip} (h : Ok x) (line : Tx) (k : Nat) (hh : line.head? ≠ some 35) (h10 : (10 : UInt8) ∉ line) (hl : line.length ≤ 100) : sread (joinC 10 (line1 x :: (((dirsS x).map dtx).take k ++ line :: ((dirsS x).map dtx).drop k ++ [line]))) = (x, 0, 0) := by
  have hn := isD_head hh
  have hr : dirLines (((dirsS x).map dtx).take k ++ line :: ((dirsS x).map dtx).drop k ++ [line]) = dirsS x := by
    rw [dirLines_app, dirLines_app, dirLines_no hn, dirLines_no hn, ← dirLines_app, List.take_append_drop, dirLines_dtx _ fun d hd => dirs_mem h hd]
    simp [dirLines]
  have hmem : ∀ l ∈ ((dirsS x).map dtx).take k ++ line :: ((dirsS x).map dtx).drop k ++ [line], l = line ∨ l ∈ (dirsS x).map dtx := fun l hl => by
    rcases List.mem_append.1 hl with hl | hl
    · rcases List.mem_append.1 hl with hl | hl
      · exact .inr (List.mem_of_mem_take hl)
      · rcases List.mem_cons.1 hl with e | hl
        · exact .inl e
        · exact .inr (List.mem_of_mem_drop hl)
    · exact .inl (by simpa using hl)
  refine sread_lines h _ (by rw [hr]; exact fold_dirs h) (by rw [hr]; exact once_dirs h) (fun l hm => ?_) (fun l hm hd => ?_) ?_
  · rcases hmem l hm with rfl | hm
    · exact h10
    · exact (dirs_lines h hm).1
  · rcases hmem l hm with rfl | hm
    · exact absurd hd hn
    · exact (dirs_lines h hm).2 hd
  · have h1 := join_two 10 (line1 x) (((dirsS x).map dtx).take k ++ line :: ((dirsS x).map dtx).drop k ++ [line]) 306 fun w hw => by
      rcases hmem w hw with rfl | hw
      · omega
      · obtain ⟨d, hd, rfl⟩ := List.mem_map.1 hw
        exact (made_text (dirs_mem h hd)).len
    have h2 := line1_len h
    have h3 := dirs_count h
    have h4 : (((dirsS x).map dtx).take k ++ line :: ((dirsS x).map dtx).drop k ++ [line]).length ≤ 17 := by
      simp only [List.length_append, List.length_cons, List.length_nil, List.length_take, List.length_drop, List.length_map]
      omega
    have h5 : (((dirsS x).map dtx).take k ++ line :: ((dirsS x).map dtx).drop k ++ [line]).length * (306 + 1) ≤ 17 * 307 := Nat.mul_le_mul_right _ h4
    exact Nat.le_trans h1 (by omega)
end Go.Proofs.YtpmghgfgbkncoaaGreatDoor.sp
end
section
set_option linter.unusedVariables false
namespace Go.Proofs.YtpmghgfgbkncoaaGreatDoor.sp
open Go.Proofs.YtpmghgfgbkncoaaGreatDoor.un
open Go.Proofs.YtpmghgfgbkncoaaGreatDoor.di

theorem chk_not {x : Slip} (h : ¬ Ok x) : chkS x = false := by
  cases hc : chkS x with
  | false => rfl
  | true => exact absurd ((chkS_iff x).1 hc) h
theorem not_nodes (x : Slip) : chkS { x with nodes := 65 } = false := chk_not fun h => by have := h.nodes.2; simp at this
theorem not_wall (x : Slip) : chkS { x with wall := 0 } = false := chk_not fun h => by have := h.wall.1; simp at this
theorem not_qos (x : Slip) : chkS { x with qos := -1 } = false := chk_not fun h => by have := h.qos.1; simp at this
theorem not_in (x : Slip) : chkS { x with inn := x.cap + 1 } = false := chk_not fun h => by have := h.inn.2; simp at this; omega
theorem not_user (x : Slip) : chkS { x with user := x.user ++ [32] } = false := chk_not fun h => (plain_name h.user).1 (show (32 : UInt8) ∈ x.user ++ [32] by simp)
theorem not_pool (x : Slip) : chkS { x with cap := 0, pool := [112] } = false := chk_not fun h => by have := h.pool0 rfl; simp at this
theorem not_after (x : Slip) : chkS { x with after := x.after ++ [(1, false), (1, true)] } = false := chk_not fun h => by
  have := h.after.2.1
  simp only [List.map_append, List.nodup_append] at this
  exact absurd this.2.1 (by decide)
theorem not_use (x : Slip) : chkS { x with use := x.use ++ [[113], [113]] } = false := chk_not fun h => by
  have := h.use.2.1
  rw [List.nodup_append] at this
  exact absurd this.2.1 (by decide)
/-- How a slip's text begins. -/
def begT (x : Slip) : Tx := [106, 111, 98, 32, 117, 115, 101, 114, 61] ++ (x.user ++ [32, 110, 111, 100, 101, 115, 61])
theorem line1_beg (x : Slip) : ∃ r, line1 x = begT x ++ r ∧ r ≠ [] := by
  have hz : (fsS x).map wtx = wtx (userK, x.user) :: wtx (nodesK, txt x.nodes) :: wtx (wallK, txt x.wall) :: ((if 0 < x.qos then [(qosK, txt x.qos)] else []) ++ (if x.after = [] then [] else [(afterK, joinC 44 (x.after.map depT))])).map wtx := by
    unfold fsS
    rw [List.append_assoc, List.map_append]
    rfl
  unfold line1
  rw [hz, joinC_cons 32 _ (by simp), joinC_cons 32 _ (by simp), joinC_cons 32 _ (by simp)]
  refine ⟨txt x.nodes ++ 32 :: joinC 32 (wtx (wallK, txt x.wall) :: ((if 0 < x.qos then [(qosK, txt x.qos)] else []) ++ (if x.after = [] then [] else [(afterK, joinC 44 (x.after.map depT))])).map wtx), ?_, by simp⟩
  simp [begT, jobW, wtx, userK, nodesK]
theorem txtS_beg (x : Slip) : ∃ r, txtS x = begT x ++ r ∧ r ≠ [] := by
  obtain ⟨r, h1, h2⟩ := line1_beg x
  unfold txtS
  cases hd : (dirsS x).map dtx with
  | nil => exact ⟨r, h1, h2⟩
  | cons a L =>
    rw [joinC_cons 10 _ (by simp), h1, List.append_assoc]
    exact ⟨_, rfl, by simp⟩
end Go.Proofs.YtpmghgfgbkncoaaGreatDoor.sp
end
section
namespace Go.Proofs.YtpmghgfgbkncoaaGreatDoor.sp
open Go.Proofs.YtpmghgfgbkncoaaGreatDoor.un
open Go.Proofs.YtpmghgfgbkncoaaGreatDoor.di
def h1T : Tx := [106, 111, 98, 32, 117, 115, 101, 114, 61, 97, 32, 110, 111, 100, 101, 115, 61, 50, 32, 119, 97, 108, 108, 61, 49, 48, 32, 97, 102, 116, 101, 114, 61, 111, 107, 58, 51, 10, 35, 66, 66, 32, 106, 111, 98, 100, 119, 32, 99, 97, 112, 97, 99, 105, 116, 121, 61, 49, 75, 105, 66, 32, 112, 111, 111, 108, 61, 112]
def h2T : Tx := [106, 111, 98, 32, 117, 115, 101, 114, 61, 97, 32, 110, 111, 100, 101, 115, 61, 48, 32, 119, 97, 108, 108, 61, 49, 48]
def h3T : Tx := [106, 111, 98, 32, 117, 115, 101, 114, 61, 97, 32, 110, 111, 100, 101, 115, 61, 49, 32, 119, 97, 108, 108, 61, 49, 48, 10, 35, 66, 66, 32, 115, 116, 97, 103, 101, 95, 105, 110, 32, 115, 105, 122, 101, 61, 49]
def h1S : Slip := ⟨[97], 2, 10, 0, [(3, false)], 1024, 0, 0, [112], [], [], []⟩
theorem h1_read : sread h1T = (h1S, 0, 0) := by decide +kernel
theorem h2_read : (sread h2T).2 = (150, 1) := by decide +kernel
theorem h3_read : (sread h3T).2 = (150, 2) := by decide +kernel
theorem h1_chk : chkS h1S = true := by decide +kernel
theorem h1_txt : txtS h1S = h1T := by decide +kernel
end Go.Proofs.YtpmghgfgbkncoaaGreatDoor.sp
end
section
set_option linter.unusedVariables false
namespace Go.Proofs.YtpmghgfgbkncoaaGreatDoor.gn
open Go.RowKit

/-- A value reads as itself. -/
def hR (v : Value) : Option (DataW Value × List MemPlace) := some (.held v, [])
theorem hR_inv {v u : Value} {ps : List MemPlace} (h : hR v = some (.held u, ps)) : v = u := by
  unfold hR at h
  simp only [Option.some.injEq, Prod.mk.injEq, DataW.held.injEq] at h
  exact h.1
def datV (L : List (List UInt8 × Value)) : DataW Value := .map (L.map fun p => (.string p.1, .held p.2))
theorem datV_ins (k : List UInt8) (v : Value) : ∀ L : List (List UInt8 × Value), (fi.ins (k, v) L).map (fun p => (Lit.string p.1, (DataW.held p.2 : DataW Value))) = DataW.insert (.string k, .held v) (L.map fun p => (.string p.1, .held p.2))
  | [] => rfl
  | y :: r => by
    unfold fi.ins
    have := datV_ins k v r
    cases h : bytesBefore k y.1 with
    | true => simp [DataW.insert, Lit.before, h]
    | false => simp [DataW.insert, Lit.before, h, this]
theorem datV_del (k : List UInt8) (L : List (List UInt8 × Value)) : (fi.del k L).map (fun p => (Lit.string p.1, (DataW.held p.2 : DataW Value))) = (L.map fun p => (Lit.string p.1, (DataW.held p.2 : DataW Value))).filter fun p => !p.1.sameKey (.string k) := by
  unfold fi.del
  rw [List.filter_map]
  rfl
theorem datV_put (k : List UInt8) (v : Value) (L : List (List UInt8 × Value)) : (datV L).put (.string k) (.held v) = datV (fi.put k v L) := by
  show DataW.map (DataW.insert _ ((L.map _).filter fun p => !p.1.sameKey (.string k))) = .map _
  rw [← datV_del, ← datV_ins]
  rfl
theorem datV_cut (k : List UInt8) (L : List (List UInt8 × Value)) : (datV L).del (.string k) = datV (fi.del k L) := by
  show DataW.map ((L.map _).filter fun p => !p.1.sameKey (.string k)) = .map _
  rw [← datV_del]
theorem find_datV (k : List UInt8) (L : List (List UInt8 × Value)) : (L.map fun p => (Lit.string p.1, (DataW.held p.2 : DataW Value))).find? (fun p => p.1.sameKey (.string k)) = (L.find? fun p => p.1 == k).map fun p => (.string p.1, .held p.2) := by
  rw [List.find?_map]
  rfl
theorem datV_at (k : List UInt8) (z : Value) (L : List (List UInt8 × Value)) : (datV L).atKey (.string k) (.held z) = .held ((fi.get k L).getD z) := by
  simp only [datV, DataW.atKey, find_datV, fi.get]
  cases L.find? fun p => p.1 == k <;> rfl
theorem datV_has (k : List UInt8) (L : List (List UInt8 × Value)) : Maps.has (datV L) (.string k) = (fi.get k L).isSome := by
  show (L.map fun p => (Lit.string p.1, (DataW.held p.2 : DataW Value))).any (fun p => p.1.sameKey (.string k)) = _
  have h := find_datV k L
  rw [Bool.eq_iff_iff, List.any_eq_true, ← List.find?_isSome, h]
  unfold fi.get
  cases L.find? fun p => p.1 == k <;> simp
theorem datV_size (L : List (List UInt8 × Value)) : Maps.size (datV L) = L.length := by simp [datV, Maps.size]
theorem get_put (j k : List UInt8) (v : Value) (L : List (List UInt8 × Value)) : fi.get j (fi.put k v L) = if j = k then some v else fi.get j L := by
  by_cases h : j = k
  · rw [if_pos h, h, fi.get_put_same]
  · rw [if_neg h, fi.get_put_other h]
theorem get_del (j k : List UInt8) (L : List (List UInt8 × Value)) : fi.get j (fi.del k L) = if j = k then none else fi.get j L := by
  by_cases h : j = k
  · rw [if_pos h, h, fi.get_del_same]
  · rw [if_neg h, fi.get_del_other h]

theorem keyStr : Go.Maps.Keyed Tryz.prog 9 := Go.Maps.string_keyed Tryz.underlying9
theorem keyS {l : List UInt8} (h : l.length ≤ maxLen) : keyOf Tryz.prog 9 (.string (str l)) = some (.string l) := by
  have := Go.WideMaps.keyOf_string_mk (P := Tryz.prog) Tryz.underlying9 (s := str l) (by rw [str_size]; exact h)
  simpa [str] using this

/-- Block b is the map of these names and values. -/
def MapV (w : World) (b : Nat) (L : List (List UInt8 × Value)) : Prop := ∃ n, w.ownsMap Tryz.prog 9 hR b n (datV L)
theorem MapV.exact {w : World} {b : Nat} {L : List (List UInt8 × Value)} (h : MapV w b L) : w.ownsMap Tryz.prog 9 hR b L.length (datV L) := by
  obtain ⟨n, es, clock, hb, F, _, hD⟩ := h
  refine ⟨es, clock, hb, F, ?_, hD⟩
  have h1 := congrArg Maps.size hD
  rw [datV_size] at h1
  simp only [Maps.size, length_sorted, List.length_map, Array.length_toList] at h1
  omega
theorem MapV.lt {w : World} {b : Nat} {L : List (List UInt8 × Value)} (h : MapV w b L) : b < w.heap.size := by
  obtain ⟨n, hn⟩ := h
  exact World.ownsMap.lt hn
theorem MapV.kept {w w' : World} {b : Nat} {L : List (List UInt8 × Value)} (h : MapV w b L) (hb : w'.heap[b]? = w.heap[b]?) : MapV w' b L := by
  obtain ⟨n, es, clock, h1, h2⟩ := h
  exact ⟨n, es, clock, hb.trans h1, h2⟩
theorem MapV.next {w w' : World} {b : Nat} {L : List (List UInt8 × Value)} (h : MapV w b L) (hb : Below w.heap.size w w') : MapV w' b L := h.kept (hb.block b h.lt)
theorem MapV.but {R : Nat} {w w' : World} {b : Nat} {L : List (List UInt8 × Value)} (h : MapV w b L) (hb : But R w w') (hne : b ≠ R) : MapV w' b L := h.kept (hb.block b h.lt (fun e => hne (Option.some.inj e)))
theorem MapV.drew {w : World} {b : Nat} {L : List (List UInt8 × Value)} (h : MapV w b L) : MapV w.drew b L := h
theorem MapV.new (w : World) : MapV (w.alloc (.map #[] 0)) w.heap.size [] := ⟨0, World.ownsMap_made w _ _ _⟩
theorem MapV.look {w : World} {b : Nat} {L : List (List UInt8 × Value)} (h : MapV w b L) {t e : TypeId} (ht : Tryz.prog.underlying t = some (.map 9 e)) {z : Value} (hz : (zeroValue e).run Tryz.prog w = .ok z w) {k : List UInt8} (hk : k.length ≤ maxLen) :
    (Instr.lookup t (.map (some b)) (.string (str k)) false).run Tryz.prog w = .ok ((fi.get k L).getD z) w := by
  obtain ⟨n, hn⟩ := h
  obtain ⟨v, ps, hrun, hv⟩ := hn.lookup keyStr ht hz (show hR z = some (.held z, []) from rfl) (keyS hk)
  rw [datV_at] at hv
  rw [hrun, hR_inv hv]
theorem MapV.look_ok {w : World} {b : Nat} {L : List (List UInt8 × Value)} (h : MapV w b L) {t e : TypeId} (ht : Tryz.prog.underlying t = some (.map 9 e)) {z : Value} (hz : (zeroValue e).run Tryz.prog w = .ok z w) {k : List UInt8} (hk : k.length ≤ maxLen) :
    (Instr.lookup t (.map (some b)) (.string (str k)) true).run Tryz.prog w = .ok (.tuple #[(fi.get k L).getD z, .bool (fi.get k L).isSome]) w := by
  obtain ⟨n, hn⟩ := h
  obtain ⟨v, ps, hrun, hv⟩ := hn.look_ok keyStr ht hz (show hR z = some (.held z, []) from rfl) (keyS hk)
  rw [datV_at] at hv
  rw [hrun, hR_inv hv, datV_has]
theorem MapV.put {w : World} {b : Nat} {L : List (List UInt8 × Value)} (h : MapV w b L) {t e : TypeId} (ht : Tryz.prog.underlying t = some (.map 9 e)) {k : List UInt8} (hk : k.length ≤ maxLen) (hL : L.length < maxLen) (v : Value) :
    ∃ w', (Instr.mapUpdate t (.map (some b)) (.string (str k)) v).run Tryz.prog w = .ok () w' ∧ MapV w' b (fi.put k v L) ∧ But b w w' := by
  obtain ⟨w', hrun, h1, h2⟩ := h.exact.update keyStr ht hL (keyS hk) (show hR v = some (.held v, []) from rfl)
  exact ⟨w', hrun, ⟨_, by rw [← datV_put]; exact h1⟩, h2⟩
theorem MapV.put2 {w : World} {b n : Nat} {L : List (List UInt8 × Value)} (h : MapV w b L) (hn : L.length ≤ n) {t e : TypeId} (ht : Tryz.prog.underlying t = some (.map 9 e)) {k : List UInt8} (hk : k.length ≤ maxLen) (hL : n < 1000) (v : Value) :
    ∃ w' L', (Instr.mapUpdate t (.map (some b)) (.string (str k)) v).run Tryz.prog w = .ok () w' ∧ MapV w' b L' ∧ L'.length ≤ n + 1 ∧ (∀ j, fi.get j L' = if j = k then some v else fi.get j L) ∧ But b w w' := by
  obtain ⟨w', h1, h2, h3⟩ := h.put ht hk (show L.length < maxLen by unfold maxLen; omega) v
  exact ⟨w', _, h1, h2, Nat.le_trans (fi.put_length k v) (by omega), fun j => get_put j k v L, h3⟩
theorem mapTurned_but {w w' : World} {b : Nat} (h : w.mapTurned w' b) : But b w w' := by
  obtain ⟨es, c, es', c', hb, rfl⟩ := h
  exact ⟨rfl, rfl, rfl, by simp [Go.ChangeMaps.setBlock], fun i _ hi => Go.ChangeMaps.heap_setBlock_other hb _ fun e => hi (by rw [e])⟩
theorem MapV.del {w : World} {b : Nat} {L : List (List UInt8 × Value)} (h : MapV w b L) {t e : TypeId} (ht : Tryz.prog.underlying t = some (.map 9 e)) {k : List UInt8} (hk : k.length ≤ maxLen) (ty : TypeId) :
    ∃ w', (Builtin.delete_ #[t, 9] ty #[.map (some b), .string (str k)]).run Tryz.prog w = .ok (.tuple #[]) w' ∧ MapV w' b (fi.del k L) ∧ But b w w' := by
  obtain ⟨w', hrun, h1, h2⟩ := h.exact.drop keyStr ht (keyS hk) ty
  exact ⟨w', hrun, ⟨_, by rw [← datV_cut]; exact h1⟩, mapTurned_but h2⟩

/-- A range over the map b, by block r: left says whose turn is still to come. -/
def RngV (w : World) (b r : Nat) (L : List (List UInt8 × Value)) (left : Lit → Bool) (cnt : Nat) : Prop := w.ranges Tryz.prog 9 hR b r L.length (datV L) left cnt
theorem RngV.lt {w : World} {b r : Nat} {L : List (List UInt8 × Value)} {left : Lit → Bool} {cnt : Nat} (h : RngV w b r L left cnt) : r < w.heap.size := World.ranges.lt h
theorem RngV.map {w : World} {b r : Nat} {L : List (List UInt8 × Value)} {left : Lit → Bool} {cnt : Nat} (h : RngV w b r L left cnt) : MapV w b L := ⟨_, World.ranges.owns h⟩
theorem RngV.next {w w' : World} {b r : Nat} {L : List (List UInt8 × Value)} {left : Lit → Bool} {cnt : Nat} (h : RngV w b r L left cnt) (hb : Below w.heap.size w w') : RngV w' b r L left cnt :=
  World.ranges.kept h (row := none) ⟨hb.os, hb.tape, hb.output, hb.size, fun i hi _ => hb.block i hi⟩ (by simp) (by simp)
theorem RngV.left_eq {w : World} {b r : Nat} {L : List (List UInt8 × Value)} {left : Lit → Bool} {cnt : Nat} (h : RngV w b r L left cnt) : w.rangeLeft b r = cnt := World.ranges.left_eq h
theorem key_str2 {v : Value} {kl : Lit} (hk : keyOf Tryz.prog 9 v = some kl) : ∃ k : List UInt8, v = .string (str k) ∧ kl = .string k := by
  rw [keyOf_string Tryz.underlying9] at hk
  cases v <;> simp [mapKey, Tryz.underlying9] at hk
  obtain ⟨_, rfl⟩ := hk
  exact ⟨_, by rw [str_of], rfl⟩

/-- 'range m'. -/
theorem wpList_range_map (w : World) {ops : Array Oper} {rest : List Oper} {o : Oper} {a : Act} {Q : Exit → Act → World → Prop} (hg : o.guard = none) (m : Operand) (t e : TypeId) (hop : o.op = Op.range t m) (ht : Tryz.prog.underlying t = some (.map 9 e))
    (b : Nat) (L : List (List UInt8 × Value)) (hm : a.eval m = .map (some b)) (h : MapV w b L)
    (hK : ∀ w', RngV w' b w.heap.size L (fun kl => Maps.has (datV L) kl) L.length → Below w.heap.size w w' → w'.heap.size = w.heap.size + 1 → wpList Tryz.prog ops Q rest (a.put o.dst (.pointer (some ⟨w.heap.size, 0, none⟩))) w') :
    wpList Tryz.prog ops Q (o :: rest) a w := by
  refine wpList_range_own w hg m t hop 9 e keyStr ht hR b _ _ hm h.exact ?_
  intro w' h1 h2 h3
  rw [datV_size] at h1
  exact hK w' h1 ⟨h2.os, h2.tape, h2.output, h2.size, fun i hi => h2.block i hi (by simp)⟩ h3
/-- The step. -/
theorem wpList_next_map (w : World) {ops : Array Oper} {rest : List Oper} {o : Oper} {a : Act} {Q : Exit → Act → World → Prop} (hg : o.guard = none) (it : Operand) (hop : o.op = Op.next it false)
    (b r : Nat) (L : List (List UInt8 × Value)) (left : Lit → Bool) (cnt : Nat) (hit : a.eval it = .pointer (some ⟨r, 0, none⟩)) (h : RngV w b r L left cnt)
    (hDone : cnt = 0 → (∀ kl, left kl = false) → wpList Tryz.prog ops Q rest (a.put o.dst (.tuple #[.bool false])) w)
    (hMore : ∀ (k : List UInt8) (v : Value) (w' : World) (cnt' : Nat), fi.get k L = some v → left (.string k) = true → RngV w' b r L (fun z => left z && !z.sameKey (.string k)) cnt' → cnt' < cnt →
      But r w w' → w'.heap.size = w.heap.size → (Instr.entry (.pointer (some ⟨r, 0, none⟩))).run Tryz.prog w' = .ok (.tuple #[.string (str k), v]) w' →
      wpList Tryz.prog ops Q rest (a.put o.dst (.tuple #[.bool true, .string (str k), v])) w') :
    wpList Tryz.prog ops Q (o :: rest) a w := by
  refine wpList_plain hg fun K' hK' => ?_
  unfold Oper.wp
  rcases World.ranges.next h keyStr o.type with ⟨h0, hl, hrun⟩ | ⟨key, v, kl, y, w', cnt', hkey, hlk, hv, hat, hrun, hrg, hlt, hgr, hsz, hen⟩
  · simp [execOp, hop, hit, hrun, Result.andThen]
    exact hK' _ _ (hDone h0 hl)
  · obtain ⟨k, rfl, rfl⟩ := key_str2 hkey
    have hy : y = (.held v, []) := (Option.some.inj hv).symm
    subst hy
    have hp : fi.get k L = some v := by
      have h1 := hat (.held v)
      have h2 := hat (.held (.bool true))
      have h3 := hat (.held (.bool false))
      rw [datV_at] at h1 h2 h3
      cases hgk : fi.get k L with
      | some u =>
        rw [hgk] at h1
        simp only [Option.getD_some, DataW.held.injEq] at h1
        rw [h1]
      | none =>
        rw [hgk] at h2 h3
        simp only [Option.getD_none, DataW.held.injEq] at h2 h3
        rw [← h3] at h2
        cases h2
    simp [execOp, hop, hit, hrun, Result.andThen]
    exact hK' _ _ (hMore k v w' cnt' hp hlk hrg hlt hgr hsz hen)

/-- 'v, ok := m[k]', where k is there. -/
theorem wpList_look_yes (w : World) {ops : Array Oper} {rest : List Oper} {o : Oper} {a : Act} {Q : Exit → Act → World → Prop} (hg : o.guard = none) (m x : Operand) (t e : TypeId) (hop : o.op = Op.lookup t m x true) (ht : Tryz.prog.underlying t = some (.map 9 e))
    {z : Value} (hz : ∀ W, (zeroValue e).run Tryz.prog W = .ok z W) (b : Nat) (L : List (List UInt8 × Value)) (hm : a.eval m = .map (some b)) (h : MapV w b L) (k : List UInt8) (hx : a.eval x = .string (str k)) (hk : k.length ≤ maxLen) (v : Value) (hv : fi.get k L = some v)
    (hK : wpList Tryz.prog ops Q rest (a.put o.dst (.tuple #[v, .bool true])) w) :
    wpList Tryz.prog ops Q (o :: rest) a w := by
  refine wpList_plain hg fun K' hK' => ?_
  have hrun := h.look_ok ht (hz w) hk
  rw [hv] at hrun
  unfold Oper.wp
  simp [execOp, hop, hm, hx, hrun, Result.andThen]
  exact hK' _ _ hK
/-- 'v, ok := m[k]', where k is not there. -/
theorem wpList_look_no (w : World) {ops : Array Oper} {rest : List Oper} {o : Oper} {a : Act} {Q : Exit → Act → World → Prop} (hg : o.guard = none) (m x : Operand) (t e : TypeId) (hop : o.op = Op.lookup t m x true) (ht : Tryz.prog.underlying t = some (.map 9 e))
    {z : Value} (hz : ∀ W, (zeroValue e).run Tryz.prog W = .ok z W) (b : Nat) (L : List (List UInt8 × Value)) (hm : a.eval m = .map (some b)) (h : MapV w b L) (k : List UInt8) (hx : a.eval x = .string (str k)) (hk : k.length ≤ maxLen) (hv : fi.get k L = none)
    (hK : wpList Tryz.prog ops Q rest (a.put o.dst (.tuple #[z, .bool false])) w) :
    wpList Tryz.prog ops Q (o :: rest) a w := by
  refine wpList_plain hg fun K' hK' => ?_
  have hrun := h.look_ok ht (hz w) hk
  rw [hv] at hrun
  unfold Oper.wp
  simp [execOp, hop, hm, hx, hrun, Result.andThen]
  exact hK' _ _ hK
/-- 'delete(m, k)'. -/
theorem wpList_del_map (w : World) {ops : Array Oper} {rest : List Oper} {o : Oper} {a : Act} {Q : Exit → Act → World → Prop} (hg : o.guard = none) (m x : Operand) (t e : TypeId) (hop : o.op = Op.call { callee := Callee.builtin Builtin.delete, args := #[m, x], argTypes := #[t, 9] }) (ht : Tryz.prog.underlying t = some (.map 9 e))
    (b : Nat) (L : List (List UInt8 × Value)) (hm : a.eval m = .map (some b)) (h : MapV w b L) (k : List UInt8) (hx : a.eval x = .string (str k)) (hk : k.length ≤ maxLen)
    (hK : ∀ w', MapV w' b (fi.del k L) → But b w w' → wpList Tryz.prog ops Q rest (a.put o.dst (.tuple #[])) w') :
    wpList Tryz.prog ops Q (o :: rest) a w := by
  refine wpList_plain hg fun K' hK' => ?_
  obtain ⟨w', hrun, r1, r2⟩ := h.del ht hk o.type
  unfold Oper.wp
  simp [execOp, hop, resolve, invoke, builtin, hm, hx, hrun, Result.andThen]
  exact hK' _ _ (hK w' r1 r2)
/-- 'm[k] = v'. -/
theorem wpList_put_map (w : World) {ops : Array Oper} {rest : List Oper} {o : Oper} {a : Act} {Q : Exit → Act → World → Prop} (hg : o.guard = none) (m x y : Operand) (t e : TypeId) (hop : o.op = Op.mapUpdate t m x y) (ht : Tryz.prog.underlying t = some (.map 9 e))
    (b n : Nat) (L : List (List UInt8 × Value)) (hm : a.eval m = .map (some b)) (h : MapV w b L) (hn : L.length ≤ n) (hn2 : n < 1000) (k : List UInt8) (hx : a.eval x = .string (str k)) (hk : k.length ≤ maxLen) (v : Value) (hy : a.eval y = v)
    (hK : ∀ w' L', MapV w' b L' → L'.length ≤ n + 1 → (∀ j, fi.get j L' = if j = k then some v else fi.get j L) → But b w w' → wpList Tryz.prog ops Q rest (a.put o.dst undef) w') :
    wpList Tryz.prog ops Q (o :: rest) a w := by
  refine wpList_plain hg fun K' hK' => ?_
  obtain ⟨w', L', hrun, r1, r2, r3, r4⟩ := h.put2 hn ht hk hn2 v
  unfold Oper.wp
  simp [execOp, hop, hm, hx, hy, hrun, Result.andThen]
  exact hK' _ _ (hK w' L' r1 r2 r3 r4)
end Go.Proofs.YtpmghgfgbkncoaaGreatDoor.gn
end
section
namespace Go.Proofs.YtpmghgfgbkncoaaGreatDoor.gn
open Go.RowKit
theorem str_mid (l : List UInt8) (a n : Nat) : (str l).extract a (a + n) = str ((l.drop a).take n) := by
  apply ByteArray.ext
  simp [str]
theorem sl_mid (l : List UInt8) (i j : Int) (a n : Nat) (hi : i = (a : Int)) (hj : j = ((a + n : Nat) : Int)) (h : a + n ≤ l.length) (w : World) :
    (Instr.slice 9 (.string (str l)) (some (.int .i64 i)) (some (.int .i64 j)) none).run Tryz.prog w = .ok (.string (str ((l.drop a).take n))) w := by
  subst hi; subst hj
  have h1 := run_slice_string (P := Tryz.prog) w 9 (str l) .i64 .i64 (a : Int) ((a + n : Nat) : Int) Tryz.underlying9 (by omega) (by omega) (by rw [str_size]; omega)
  rw [Int.toNat_natCast, Int.toNat_natCast, str_mid] at h1
  exact h1
theorem sl_upto (l : List UInt8) (j : Int) (n : Nat) (hj : j = (n : Int)) (h : n ≤ l.length) (w : World) :
    (Instr.slice 9 (.string (str l)) none (some (.int .i64 j)) none).run Tryz.prog w = .ok (.string (str (l.take n))) w := by
  subst hj
  have h1 := run_slice_string_h (P := Tryz.prog) w 9 (str l) Tryz.underlying9 .i64 (n : Int) (by omega) (by rw [str_size]; omega)
  rw [Int.toNat_natCast, str_take] at h1
  exact h1
theorem sl_from (l : List UInt8) (i : Int) (a : Nat) (hi : i = (a : Int)) (h : a ≤ l.length) (w : World) :
    (Instr.slice 9 (.string (str l)) (some (.int .i64 i)) none none).run Tryz.prog w = .ok (.string (str (l.drop a))) w := by
  subst hi
  have h1 := run_slice_string_l (P := Tryz.prog) w 9 (str l) Tryz.underlying9 .i64 (a : Int) (by omega) (by rw [str_size]; omega)
  rw [Int.toNat_natCast, str_drop] at h1
  exact h1
end Go.Proofs.YtpmghgfgbkncoaaGreatDoor.gn
end
section
set_option linter.unusedVariables false
namespace Go.Proofs.YtpmghgfgbkncoaaGreatDoor.gn
open Go.RowKit
open Go.Proofs.YtpmghgfgbkncoaaGreatDoor.un

theorem strKeyed : Go.Maps.Keyed Tryz.prog 9 := Go.Maps.string_keyed Tryz.underlying9
theorem strKey {l : List UInt8} (h : l.length ≤ maxLen) : keyOf Tryz.prog 9 (.string (str l)) = some (.string l) := by
  have := Go.WideMaps.keyOf_string_mk (P := Tryz.prog) Tryz.underlying9 (s := str l) (by rw [str_size]; exact h)
  simpa [str] using this
theorem zero64 (w : World) : (zeroValue 2).run Tryz.prog w = .ok (.int .i64 0) w := by kernel_rfl
theorem el64 (n : Int) (h : (Lit.int .i64 n).wf = true) : plainElem (H := Unit) Tryz.prog 2 (.int .i64 n) = some (.lit (.int .i64 n), []) := plainElem_int Tryz.underlying2 h

/-- The map of the units, as it reads. -/
def unitD : DataW Unit := ((((((((DataW.map []).put (.string [75, 66]) (.lit (.int .i64 1000))).put (.string [77, 66]) (.lit (.int .i64 1000000))).put (.string [71, 66]) (.lit (.int .i64 1000000000))).put (.string [84, 66]) (.lit (.int .i64 1000000000000))).put (.string [75, 105, 66]) (.lit (.int .i64 1024))).put (.string [77, 105, 66]) (.lit (.int .i64 1048576))).put (.string [71, 105, 66]) (.lit (.int .i64 1073741824))).put (.string [84, 105, 66]) (.lit (.int .i64 1099511627776))
def UM (w : World) (b : Nat) : Prop := w.ownsMap Tryz.prog 9 (plainElem (H := Unit) Tryz.prog 2) b 8 unitD
theorem UM.lt {w : World} {b : Nat} (h : UM w b) : b < w.heap.size := World.ownsMap.lt h
theorem UM.next {w w' : World} {b : Nat} (h : UM w b) (hb : Below w.heap.size w w') : UM w' b := by
  have hlt := h.lt
  obtain ⟨es, clock, h1, h2⟩ := h
  exact ⟨es, clock, (hb.block b hlt).trans h1, h2⟩
theorem UM.drew {w : World} {b : Nat} (h : UM w b) : UM w.drew b := h
theorem unitD_at {k : Nat} (hk : k < 8) : unitD.atKey (.string (nm k)) (.lit (.int .i64 0)) = .lit (.int .i64 (sz k : Nat)) := by
  rcases lt8 hk with rfl | rfl | rfl | rfl | rfl | rfl | rfl | rfl <;> kernel_rfl
theorem UM.look {w : World} {b : Nat} (h : UM w b) {k : Nat} (hk : k < 8) :
    (Instr.lookup 131 (.map (some b)) (.string (str (nm k))) false).run Tryz.prog w = .ok (.int .i64 (sz k : Nat)) w := by
  have hl : (nm k).length ≤ maxLen := Nat.le_trans (nm_len hk) (by decide)
  obtain ⟨c, hrun, hat, _⟩ := World.ownsMap.lookup_int h strKeyed Tryz.underlying131 Tryz.underlying2 (zero64 w) (strKey hl)
  rw [unitD_at hk] at hat
  simp only [DataW.lit.injEq, Lit.int.injEq, true_and] at hat
  rw [hrun, hat]

set_option maxRecDepth 100000 in
set_option maxHeartbeats 1600000 in
theorem units_any (w : World) : Calls Tryz.prog 98 #[] w fun e w' => ∃ b, e = .returned (.map (some b)) ∧ UM w' b ∧ w.heap.size ≤ b ∧ Below w.heap.size w w' := by
  have h0 := World.ownsMap_made w Tryz.prog 9 (plainElem (H := Unit) Tryz.prog 2)
  have hz : (w.alloc (.map #[] 0)).heap.size = w.heap.size + 1 := by simp
  have b0 : Below w.heap.size w (w.alloc (.map #[] 0)) := (Below.refl _ w).alloc (Nat.le_refl _) _
  have k1 : keyOf Tryz.prog 9 (.string { data := #[75, 66] }) = some (.string [75, 66]) := strKey (l := [75, 66]) (by decide)
  have k2 : keyOf Tryz.prog 9 (.string { data := #[77, 66] }) = some (.string [77, 66]) := strKey (l := [77, 66]) (by decide)
  have k3 : keyOf Tryz.prog 9 (.string { data := #[71, 66] }) = some (.string [71, 66]) := strKey (l := [71, 66]) (by decide)
  have k4 : keyOf Tryz.prog 9 (.string { data := #[84, 66] }) = some (.string [84, 66]) := strKey (l := [84, 66]) (by decide)
  have k5 : keyOf Tryz.prog 9 (.string { data := #[75, 105, 66] }) = some (.string [75, 105, 66]) := strKey (l := [75, 105, 66]) (by decide)
  have k6 : keyOf Tryz.prog 9 (.string { data := #[77, 105, 66] }) = some (.string [77, 105, 66]) := strKey (l := [77, 105, 66]) (by decide)
  have k7 : keyOf Tryz.prog 9 (.string { data := #[71, 105, 66] }) = some (.string [71, 105, 66]) := strKey (l := [71, 105, 66]) (by decide)
  have k8 : keyOf Tryz.prog 9 (.string { data := #[84, 105, 66] }) = some (.string [84, 105, 66]) := strKey (l := [84, 105, 66]) (by decide)
  obtain ⟨w1, r1, o1, g1⟩ := h0.update strKeyed Tryz.underlying131 (by decide) k1 (el64 1000 (by decide))
  obtain ⟨w2, r2, o2, g2⟩ := o1.update strKeyed Tryz.underlying131 (by decide) k2 (el64 1000000 (by decide))
  obtain ⟨w3, r3, o3, g3⟩ := o2.update strKeyed Tryz.underlying131 (by decide) k3 (el64 1000000000 (by decide))
  obtain ⟨w4, r4, o4, g4⟩ := o3.update strKeyed Tryz.underlying131 (by decide) k4 (el64 1000000000000 (by decide))
  obtain ⟨w5, r5, o5, g5⟩ := o4.update strKeyed Tryz.underlying131 (by decide) k5 (el64 1024 (by decide))
  obtain ⟨w6, r6, o6, g6⟩ := o5.update strKeyed Tryz.underlying131 (by decide) k6 (el64 1048576 (by decide))
  obtain ⟨w7, r7, o7, g7⟩ := o6.update strKeyed Tryz.underlying131 (by decide) k7 (el64 1073741824 (by decide))
  obtain ⟨w8, r8, o8, g8⟩ := o7.update strKeyed Tryz.underlying131 (by decide) k8 (el64 1099511627776 (by decide))
  have hg : (w.alloc (.map #[] 0)).grownBy w8 (some w.heap.size) := But.trans (But.trans (But.trans (But.trans (But.trans (But.trans (But.trans g1 g2) g3) g4) g5) g6) g7) g8
  have HB := Lib.hid (b0.grown hg (by rw [hz]; omega) (fun k hk => by cases hk; exact Nat.le_refl _))
  have HU := Lib.hid (show UM w8 w.heap.size from o8)
  clear h0 hz b0 k1 k2 k3 k4 k5 k6 k7 k8 o1 o2 o3 o4 o5 o6 o7 o8 g1 g2 g3 g4 g5 g6 g7 g8 hg
  have hmm := @run_makeMap Tryz.prog
  go_enter Tryz.func98, Tryz.ntmps98
  go_wp2
  go_ret
  exact ⟨_, rfl, HU.out, Nat.le_refl _, HB.out⟩

/-- The units' names, in their order. -/
def ordV : Array Value := #[.string { data := #[84, 105, 66] }, .string { data := #[71, 105, 66] }, .string { data := #[77, 105, 66] }, .string { data := #[75, 105, 66] }, .string { data := #[84, 66] }, .string { data := #[71, 66] }, .string { data := #[77, 66] }, .string { data := #[75, 66] }]
theorem ordV_at {k : Nat} (hk : k < 8) : ordV[k]? = some (.string (str (nm k))) := by
  rcases lt8 hk with rfl | rfl | rfl | rfl | rfl | rfl | rfl | rfl <;> rfl

set_option maxRecDepth 100000 in
theorem order_any (w : World) : Calls Tryz.prog 99 #[] w (Told (.agg ordV) w) := by
  go_enter Tryz.func99, Tryz.ntmps99
  go_wp2
  have hg : (w.alloc (.cells ordV 133)).heap[w.heap.size]? = some (.cells ordV 133 (0, 0)) := by
    show (w.heap.push _)[w.heap.size]? = _
    rw [Array.getElem?_push_size]
  exact bodyPost_ret (v := .agg ordV) (results_cell_row rfl _ _ _ _ _ _ _ rfl hg Tryz.underlying133 rfl (by kernel_rfl)) rfl ⟨rfl, (Below.refl _ w).alloc (Nat.le_refl _) _⟩
theorem order_at (w : World) {k : Nat} (hk : k < 8) : (Instr.index 133 (.agg ordV) (.int .i64 (k : Int))).run Tryz.prog w = .ok (.string (str (nm k))) w := by
  rcases lt8 hk with rfl | rfl | rfl | rfl | rfl | rfl | rfl | rfl <;> kernel_rfl
end Go.Proofs.YtpmghgfgbkncoaaGreatDoor.gn
end
section
set_option linter.unusedVariables false
namespace Go.Proofs.YtpmghgfgbkncoaaGreatDoor.gn
open Go.RowKit
open Go.Proofs.YtpmghgfgbkncoaaGreatDoor.un

theorem cutS_any (l p : List UInt8) (hl : l.length ≤ 140737488355328) (w : World) :
    Calls Tryz.prog 127 #[.string (str l), .string (str p)] w fun e w' => e = .returned (.tuple #[.string (str (Lib.trimSuffix l p)), .bool (Lib.hasSuffix l p)]) ∧ w = w' := by
  refine (Any.strings_CutSuffix layCutSuffix (str l) (str p) w (by rw [str_size]; omega)).mono ?_
  rintro e w' ⟨he, hw⟩
  have e1 : (str l).data.toList = l := by simp [str]
  have e2 : (str p).data.toList = p := by simp [str]
  rw [e1, e2] at he
  exact ⟨he, hw.symm⟩

set_option maxRecDepth 100000 in
set_option maxHeartbeats 1600000 in
theorem split_any (l : List UInt8) (hl : l.length ≤ 140737488355328) (w : World) :
    Calls Tryz.prog 112 #[.string (str l)] w (Told (.tuple #[.string (str (spl l).1), .int .i64 ((spl l).2 : Nat)]) w) := by
  have HS := Lib.hid hl
  clear hl
  go_enter Tryz.func112, Tryz.ntmps112
  go_wp2_with (first
    | (go_at_call 98; refine (units_any _).mono ?_; rintro e w1 ⟨b, rfl, hu, hbl, hb⟩; have HU := Lib.hid hu; have HB := Lib.hid hb; clear hu hb hbl)
    | (go_at_call 99; refine (order_any _).mono ?_; rintro e w2 ⟨rfl, hb2⟩; have HU2 := Lib.hid (HU.out.next hb2); have HB2 := Lib.hid (HB.out.trans (hb2.mono HB.out.size)); clear hb2))
  go_loopw [11] (fun s11 wr => ∃ k : Nat, s11 = .int .i64 k ∧ k ≤ 8 ∧ Aside (∀ i, i < k → Lib.hasSuffix l (nm i) = false) ∧ wr = w2) (fun s11 _ => 8 - (intOf s11).toNat)
  case atStart => exact ⟨0, rfl, by omega, fun i hi => absurd hi (by omega), rfl⟩
  case round =>
    obtain ⟨k, rfl, hk, hno, rfl⟩ := hrel
    by_cases h8 : k < 8
    · have hix := order_at wr h8
      cases hs : Lib.hasSuffix l (nm k) with
      | true =>
        have hsp := spl_at h8 hno hs
        have HSP := Lib.hid hsp
        have hlk := HU2.out.look h8
        have hlk2 : ∀ q, (Instr.lookup 131 (.map (some b)) (.string (str (nm k))) false).run Tryz.prog (wr.drewN q) = .ok (.int .i64 (sz k : Nat)) (wr.drewN q) := fun q => UM.look (show UM (wr.drewN q) b from HU2.out) h8
        have HK := Lib.hid hs
        clear hsp hs
        go_wp2_with (first
          | (go_at_call 127; refine (cutS_any l (nm k) HS.out _).mono ?_; rintro e w3 ⟨rfl, rfl⟩; rw [HK.out])
          | (go_quiet (fail)))
        go_ret2
        exact ⟨by rw [HSP.out]; rfl, HB2.out.trans (Joins.below_draws _ _ _)⟩
      | false =>
        have HK := Lib.hid hs
        have hno2 : ∀ i, i < k + 1 → Lib.hasSuffix l (nm i) = false := fun i hi => by
          rcases Nat.lt_or_ge i k with h | h
          · exact hno i h
          · rw [show i = k by omega]; exact hs
        have HN := Lib.hid hno2
        clear hs hno2
        go_wp2_with (go_at_call 127; refine (cutS_any l (nm k) HS.out _).mono ?_; rintro e w3 ⟨rfl, rfl⟩; rw [HK.out])
        go_roundw
        case rel => exact ⟨k + 1, by go_num, by omega, HN.out, trivial⟩
        case measure => simp [intOf]; omega
    · obtain rfl : k = 8 := by omega
      have hsp := spl_none hno
      have HSP := Lib.hid hsp
      clear hsp
      go_wp2
      go_ret2
      exact ⟨by rw [HSP.out]; rfl, HB2.out⟩

theorem size_of {l : List UInt8} {f : List UInt8} {b : Nat} (h : spl l = (f, b)) : size? l = match num? f with
    | some n => if n ≤ top / b then some (n * b) else none
    | none => none := by
  unfold size?
  rw [h]
  rfl

set_option maxRecDepth 100000 in
set_option maxHeartbeats 1600000 in
theorem size_any (l : List UInt8) (hl : l.length ≤ 140737488355328) (w : World) (hL : LaidU w) :
    Calls Tryz.prog 93 #[.string (str l)] w (Tnum (size? l) w) := by
  obtain ⟨f, b, hf⟩ : ∃ f b, spl l = (f, b) := ⟨_, _, rfl⟩
  have hb := spl_bd l
  have hfl := spl_len l
  have hsz := size_of hf
  have hsp := split_any l hl
  rw [hf] at hb hfl hsp
  dsimp only at hb hfl hsp
  have HS := Lib.hid hsp
  have HL := Lib.hid hL
  have HF := Lib.hid (Nat.le_trans hfl hl)
  clear hsp hL hfl hf hl
  obtain ⟨hb0, hbt⟩ := hb
  unfold top at hbt
  cases hn : num? f with
  | none =>
    rw [hn] at hsz
    dsimp only at hsz
    rw [hsz]
    have HN := Lib.hid hn
    clear hsz hn
    go_enter Tryz.func93, Tryz.ntmps93
    go_wp2_with (first
      | (go_at_call 112; refine (HS.out _).mono ?_; rintro e w1 ⟨rfl, hb1⟩; have HB1 := Lib.hid hb1; clear hb1)
      | (go_at_call 113; refine (number_unit f HF.out _ (HL.out.next HB1.out)).mono ?_; rintro e w2 ⟨rfl, hb2⟩; rw [HN.out, qv_none, qe_none]; have HB2 := Lib.hid (HB1.out.trans (hb2.mono HB1.out.size)); clear hb2))
    go_ret2
    exact ⟨rfl, HB2.out⟩
  | some n =>
    rw [hn] at hsz
    dsimp only at hsz
    have hnt := (num_some hn).2.2.2.1
    unfold top at hnt
    have hq : Int.tdiv 1099511627776 (b : Int) = ((top / b : Nat) : Int) := rfl
    have HN := Lib.hid hn
    have hb1 : ¬ ((b : Int) = 0) := by omega
    have hqt : top / b ≤ 1099511627776 := Nat.div_le_self _ _
    by_cases hc : n ≤ top / b
    · rw [if_pos hc] at hsz
      rw [hsz]
      obtain ⟨m, hm⟩ : ∃ m, m = n * b := ⟨_, rfl⟩
      have hmt : m ≤ 1099511627776 := by
        rw [hm]
        exact Nat.le_trans (Nat.mul_le_mul_right _ hc) (Nat.div_mul_le_self _ _)
      have hmi : (n : Int) * (b : Int) = (m : Int) := by rw [hm]; push_cast; rfl
      rw [← hm]
      obtain ⟨q, hqe⟩ : ∃ q, top / b = q := ⟨_, rfl⟩
      rw [hqe] at hq hc hqt
      clear hsz hn hm hqe
      go_enter Tryz.func93, Tryz.ntmps93
      go_wp2_with (first
        | (go_at_call 112; refine (HS.out _).mono ?_; rintro e w1 ⟨rfl, hb1⟩; have HB1 := Lib.hid hb1; clear hb1)
        | (go_at_call 113; refine (number_unit f HF.out _ (HL.out.next HB1.out)).mono ?_; rintro e w2 ⟨rfl, hb2⟩; rw [HN.out, qv_some, qe_some]; have HB2 := Lib.hid (HB1.out.trans (hb2.mono HB1.out.size)); clear hb2))
      go_ret2
      exact ⟨rfl, HB2.out⟩
    · rw [if_neg hc] at hsz
      rw [hsz]
      obtain ⟨q, hqe⟩ : ∃ q, top / b = q := ⟨_, rfl⟩
      rw [hqe] at hq hc hqt
      clear hsz hn hqe
      go_enter Tryz.func93, Tryz.ntmps93
      go_wp2_with (first
        | (go_at_call 112; refine (HS.out _).mono ?_; rintro e w1 ⟨rfl, hb1⟩; have HB1 := Lib.hid hb1; clear hb1)
        | (go_at_call 113; refine (number_unit f HF.out _ (HL.out.next HB1.out)).mono ?_; rintro e w2 ⟨rfl, hb2⟩; rw [HN.out, qv_some, qe_some]; have HB2 := Lib.hid (HB1.out.trans (hb2.mono HB1.out.size)); clear hb2))
      go_ret2
      exact ⟨rfl, HB2.out⟩
end Go.Proofs.YtpmghgfgbkncoaaGreatDoor.gn
end
section
set_option linter.unusedVariables false
namespace Go.Proofs.YtpmghgfgbkncoaaGreatDoor.gn
open Go.RowKit
open Go.Proofs.YtpmghgfgbkncoaaGreatDoor.un

set_option maxRecDepth 100000 in
theorem four_slice (b : Nat) (W : World) : (Instr.sliceAt 133 (.pointer (some ⟨b, 0, none⟩)) none (some (.int .i64 4)) none).run Tryz.prog W = .ok (.slice (some ⟨b, 0, none⟩) 4 8) W := by
  have hl : Tryz.prog.arrayLen 133 = 8 := by kernel_rfl
  rw [run_sliceAt_array_h W _ _ Tryz.underlying133 .i64 4 (by omega) (by rw [hl]; omega), hl]
  have hs : ∀ W, (sizeOf (Tryz.prog.elem 133)).run Tryz.prog W = .ok 1 W := fun W => rfl
  rw [hs]
  have ha : (⟨b, 0, none⟩ : Addr).add 0 = ⟨b, 0, none⟩ := by unfold Addr.add; split <;> simp_all
  simp [slicedAt, Result.andThen, ha]

set_option maxRecDepth 100000 in
set_option maxHeartbeats 1600000 in
theorem stext_out (n : Int) (h0 : -9223372036854775808 ≤ n) (h1 : n ≤ 9223372036854775807) (hq : ¬ (0 < n ∧ n ≤ 1099511627776)) (w : World) (hL : LaidU w) :
    Calls Tryz.prog 78 #[.int .i64 n] w (Told (.string (str (stxt n))) w) := by
  rw [stxt_out hq]
  have HL := Lib.hid hL
  clear hL
  by_cases hz : n = 0
  · subst hz
    go_enter Tryz.func78, Tryz.ntmps78
    go_wp2_with (go_at_call 52; refine (text_any 0 h0 h1 _ HL.out).mono ?_; rintro e w2 ⟨rfl, hb2⟩; have HB2 := Lib.hid hb2; clear hb2)
    go_ret
    exact ⟨rfl, HB2.out⟩
  · obtain ⟨m, hm⟩ : ∃ m, m = min (max n 0) 1099511627776 := ⟨_, rfl⟩
    have hne : (n == m) = false := by
      rw [beq_eq_false_iff_ne]
      omega
    have hne2 : (n != m) = true := by rw [bne_iff_ne]; exact beq_eq_false_iff_ne.1 hne
    have HM := Lib.hid hm
    clear hm hq
    go_enter Tryz.func78, Tryz.ntmps78
    go_wp2_with (first
      | (go_at_call 74; refine (uof_any n _).mono ?_; rintro e w' ⟨rfl, rfl⟩; rw [← HM.out])
      | (go_at_call 52; refine (text_any n h0 h1 _ HL.out).mono ?_; rintro e w2 ⟨rfl, hb2⟩; have HB2 := Lib.hid hb2; clear hb2))
    go_ret
    exact ⟨rfl, HB2.out⟩

set_option maxRecDepth 100000 in
set_option maxHeartbeats 3200000 in
theorem stext_in (n : Nat) (h0 : 0 < n) (h1 : n ≤ 1099511627776) (w : World) (hL : LaidU w) :
    Calls Tryz.prog 78 #[.int .i64 (n : Int)] w (Told (.string (str (stxt (n : Int)))) w) := by
  have HL := Lib.hid hL
  have hm : min (max (n : Int) 0) 1099511627776 = (n : Int) := by omega
  have HM := Lib.hid hm
  clear hL hm
  go_enter Tryz.func78, Tryz.ntmps78
  go_upto_region 4 with (first
    | (go_at_call 74; refine (uof_any (n : Int) _).mono ?_; rintro e w' ⟨rfl, rfl⟩; rw [HM.out])
    | (go_at_call 98; refine (units_any _).mono ?_; rintro e w1 ⟨b, rfl, hu, hbl, hb⟩; have HU := Lib.hid hu; have HB := Lib.hid hb; clear hu hb hbl)
    | (go_at_call 99; refine (order_any _).mono ?_; rintro e w2 ⟨rfl, hb2⟩; unfold ordV; have HU2 := Lib.hid (HU.out.next hb2); have HB2 := Lib.hid (HB.out.trans (hb2.mono HB.out.size)); clear hb2))
  obtain ⟨w3, hw3⟩ : ∃ w3, w2.alloc (.cells ordV 133) = w3 := ⟨_, rfl⟩
  have hcell : ∀ k, k < 8 → w3.cell? ⟨w2.heap.size, k, none⟩ = some (.string (str (nm k))) := fun k hk => by
    rw [← hw3, World.cell?_alloc_mark]
    exact ordV_at hk
  have hsz3 : w2.heap.size < w3.heap.size := by rw [← hw3]; simp
  have hb3 : Below w2.heap.size w2 w3 := by rw [← hw3]; exact (Below.refl _ _).alloc (Nat.le_refl _) _
  have HU3 := Lib.hid (HU2.out.next hb3)
  have HB3 := Lib.hid (HB2.out.trans (hb3.mono HB2.out.size))
  unfold ordV at hw3
  rw [hw3]
  clear hw3 hb3
  have HC := Lib.hid hcell
  clear hcell
  have hsl := four_slice w2.heap.size w3
  generalize w2.heap.size = g at *
  go_wp2
  go_loopw [21] (fun s21 wr => ∃ k : Nat, s21 = .int .i64 k ∧ k ≤ 4 ∧ Aside (∀ i, i < k → n % sz i ≠ 0) ∧ wr = w3) (fun s21 _ => 4 - (intOf s21).toNat)
  case atStart => exact ⟨0, rfl, by omega, fun i hi => absurd hi (by omega), rfl⟩
  case round =>
    obtain ⟨k, rfl, hk, hno, rfl⟩ := hrel
    by_cases h4 : k < 4
    · have hck := HC.out k (by omega)
      have hlk := HU3.out.look (show k < 8 by omega)
      have hsb := sz_bd (show k < 8 by omega)
      have hs0 : ¬ ((sz k : Nat) : Int) = 0 := by omega
      have htm : Int.tmod (n : Int) ((sz k : Nat) : Int) = ((n % sz k : Nat) : Int) := rfl
      have htd : Int.tdiv (n : Int) ((sz k : Nat) : Int) = ((n / sz k : Nat) : Int) := rfl
      by_cases hd : n % sz k = 0
      · have hx := stxt_at h0 h1 h4 hno hd
        have HX := Lib.hid hx
        have hle : n / sz k ≤ 1099511627776 := Nat.le_trans (Nat.div_le_self _ _) h1
        have z1 : (str (txt ((n / sz k : Nat) : Int))).size ≤ 13 := by rw [str_size]; exact txt_len _
        have z2 : (str (nm k)).size ≤ 3 := by rw [str_size]; exact nm_len (by omega)
        have hte := txt_in hle
        have HTE := Lib.hid hte
        rw [hd] at htm
        clear hx hte hno hd
        generalize n / sz k = q at *
        go_wp2_with (go_at_call 52; refine (text_any (q : Int) (by omega) (by omega) _ (HL.out.next HB3.out)).mono ?_; rintro e w4 ⟨rfl, hb4⟩; have HB4 := Lib.hid (HB3.out.trans (hb4.mono HB3.out.size)); clear hb4)
        go_ret
        exact ⟨by rw [HX.out, HTE.out, str_app]; rfl, HB4.out⟩
      · have hd2 : ((n % sz k : Nat) : Int) ≠ 0 := by omega
        have hno2 : ∀ i, i < k + 1 → n % sz i ≠ 0 := fun i hi => by
          rcases Nat.lt_or_ge i k with h | h
          · exact hno i h
          · rw [show i = k by omega]; exact hd
        have HN := Lib.hid hno2
        clear hno2 hno hd htd
        generalize n % sz k = r at *
        go_wp2
        go_roundw
        case rel => exact ⟨k + 1, by go_num, by omega, HN.out, trivial⟩
        case measure => simp [intOf]; omega
    · obtain rfl : k = 4 := by omega
      have hx := stxt_none h0 h1 hno
      have HX := Lib.hid hx
      have HTE := Lib.hid (txt_in h1)
      clear hx hno
      go_wp2_with (go_at_call 52; refine (text_any (n : Int) (by omega) (by omega) _ (HL.out.next HB3.out)).mono ?_; rintro e w4 ⟨rfl, hb4⟩; have HB4 := Lib.hid (HB3.out.trans (hb4.mono HB3.out.size)); clear hb4)
      go_ret
      exact ⟨by rw [HX.out, HTE.out]; rfl, HB4.out⟩

theorem stext_any (n : Int) (h0 : -9223372036854775808 ≤ n) (h1 : n ≤ 9223372036854775807) (w : World) (hL : LaidU w) :
    Calls Tryz.prog 78 #[.int .i64 n] w (Told (.string (str (stxt n))) w) := by
  by_cases h : 0 < n ∧ n ≤ 1099511627776
  · obtain ⟨m, rfl⟩ : ∃ m : Nat, n = (m : Int) := ⟨n.toNat, by omega⟩
    exact stext_in m (by omega) (by omega) w hL
  · exact stext_out n h0 h1 h w hL
end Go.Proofs.YtpmghgfgbkncoaaGreatDoor.gn
end
section
set_option linter.unusedVariables false
namespace Go.Proofs.YtpmghgfgbkncoaaGreatDoor.gn
open Go.RowKit
open Go.Proofs.YtpmghgfgbkncoaaGreatDoor.un
open Go.Proofs.YtpmghgfgbkncoaaGreatDoor.di

/-! ### boxes -/
/-- A box of these cells. -/
def BoxA (W : World) (B : Nat) (t : TypeId) (cs : Array Value) : Prop := W.heap[B]? = some (.cells cs t (0, 0))
theorem BoxA.lt {W : World} {B : Nat} {t : TypeId} {cs : Array Value} (h : BoxA W B t cs) : B < W.heap.size := (Array.getElem?_eq_some_iff.1 h).1
theorem BoxA.cell {W : World} {B : Nat} {t : TypeId} {cs : Array Value} (h : BoxA W B t cs) (j : Nat) (v : Value) (hj : cs[j]? = some v := by rfl) : W.cell? ⟨B, j, none⟩ = some v := by
  simp [World.cell?, show W.heap[B]? = _ from h, hj]
theorem BoxA.free {W : World} {B : Nat} {t : TypeId} {cs : Array Value} (h : BoxA W B t cs) (j : Nat) : W.frozen? ⟨B, j, none⟩ = false := by simp [World.frozen?, show W.heap[B]? = _ from h]
theorem BoxA.new (W : World) (t : TypeId) (cs : Array Value) : BoxA (W.alloc (.cells cs t)) W.heap.size t cs := heap_alloc_new W _
theorem BoxA.next {W W' : World} {B : Nat} {t : TypeId} {cs : Array Value} (h : BoxA W B t cs) (hb : Below W.heap.size W W') : BoxA W' B t cs := (hb.block B h.lt).trans h
theorem BoxA.but {R : Nat} {W W' : World} {B : Nat} {t : TypeId} {cs : Array Value} (h : BoxA W B t cs) (hb : But R W W') (hne : B ≠ R) : BoxA W' B t cs := (hb.block B h.lt (fun e => hne (Option.some.inj e))).trans h
theorem BoxA.set {W : World} {B : Nat} {t : TypeId} {cs : Array Value} (h : BoxA W B t cs) (j : Nat) (u : Value) : BoxA (W.setCell ⟨B, j, none⟩ u) B t (cs.setIfInBounds j u) := heap_setCell h u
theorem BoxA.drew {W : World} {B : Nat} {t : TypeId} {cs : Array Value} (h : BoxA W B t cs) : BoxA W.drew B t cs := h

/-! ### directives as values -/
def dcs (d : Dir) : Array Value := #[.int .u8 (d.kind : Nat), .string (str d.name), .string (str d.pool), .int .i64 d.size, .bool d.opn]
def dV (d : Dir) : Value := .agg (dcs d)
theorem eq_str (a b : Tx) : ((str a).toList == (str b).toList) = decide (a = b) := by
  rw [str_toList, str_toList, Bool.eq_iff_iff, beq_iff_eq, decide_eq_true_eq]
theorem eq_lit (a c : Tx) : ((str a).toList == c) = decide (a = c) := by
  rw [str_toList, Bool.eq_iff_iff, beq_iff_eq, decide_eq_true_eq]
theorem lit_yes {a c : Tx} (h : a = c) : ((str a).toList == c) = true ∧ (str a).toList = c := ⟨by rw [eq_lit]; exact decide_eq_true h, by rw [str_toList]; exact h⟩
theorem lit_no {a c : Tx} (h : ¬ a = c) : ((str a).toList == c) = false ∧ ¬ (str a).toList = c := ⟨by rw [eq_lit]; exact decide_eq_false h, by rw [str_toList]; exact h⟩
theorem dir_dec (d e : Dir) : decide (d = e) = (((d.kind : Nat) : Int) == ((e.kind : Nat) : Int) && (d.name == e.name && (d.pool == e.pool && (d.size == e.size && d.opn == e.opn)))) := by
  rw [Bool.eq_iff_iff]
  simp only [decide_eq_true_eq, Bool.and_eq_true, beq_iff_eq]
  obtain ⟨k, n, p, z, o⟩ := d
  obtain ⟨k', n', p', z', o'⟩ := e
  simp only [Dir.mk.injEq]
  constructor
  · rintro ⟨rfl, rfl, rfl, rfl, rfl⟩; simp
  · rintro ⟨h, rfl, rfl, rfl, rfl⟩
    exact ⟨by omega, rfl, rfl, rfl, rfl⟩
set_option maxRecDepth 100000 in
theorem dir_eqIn (d e : Dir) (W : World) : (Op.equalIn 10000 51 (dV d) (dV e)).run Tryz.prog W = .ok (decide (d = e)) W := by
  rw [dV, dV, dir_dec, run_equalIn_agg W 9999 51 (dcs d) (dcs e) (by kernel_rfl) (by kernel_rfl)]
  unfold Program.fieldsOf
  rw [Tryz.underlying51]
  simp [Op.eqFields, dcs, go_sem, Tryz.underlying5, Tryz.underlying9, Tryz.underlying2, Tryz.underlying4]
  simp only [str_toList]
  by_cases h1 : ((d.kind : Nat) : Int) = ((e.kind : Nat) : Int) <;> by_cases h2 : d.name = e.name <;> by_cases h3 : d.pool = e.pool <;> by_cases h4 : d.size = e.size <;> by_cases h5 : d.opn = e.opn <;> simp [h1, h2, h3, h4, h5]
theorem dir_eq (d e : Dir) (W : World) : (binOp .eql 51 (dV d) (dV e)).run Tryz.prog W = .ok (.bool (decide (d = e))) W := by
  rw [show dV d = .agg (dcs d) from rfl, show dV e = .agg (dcs e) from rfl, run_eql_struct, show (Op.equalIn 10000 51 (.agg (dcs d)) (.agg (dcs e))).run Tryz.prog W = _ from dir_eqIn d e W]
  rfl
theorem dir_ne (d e : Dir) (W : World) : (binOp .neq 51 (dV d) (dV e)).run Tryz.prog W = .ok (.bool (!decide (d = e))) W := by
  rw [show dV d = .agg (dcs d) from rfl, show dV e = .agg (dcs e) from rfl, run_neq_struct, show (Op.equalIn 10000 51 (.agg (dcs d)) (.agg (dcs e))).run Tryz.prog W = _ from dir_eqIn d e W]
  rfl

/-! ### names of any length -/
set_option maxRecDepth 100000 in
theorem name_long (l : List UInt8) (hl : 32 < l.length) (hm : l.length ≤ 9223372036854775807) (w : World) : Calls Tryz.prog 59 #[.string (str l)] w fun e w' => e = .returned (.bool (isName l)) ∧ Below w.heap.size w w' := by
  have hn : isName l = false := by
    unfold isName
    rw [show decide (l.length ≤ 32) = false from decide_eq_false (by omega)]
    simp
  rw [hn]
  have hz := str_size l
  have hz0 : 32 < (str l).size := by omega
  have hz1 : (str l).size ≤ 9223372036854775807 := by omega
  have hz2 : (((str l).size : Int) == 0) = false := by rw [beq_eq_false_iff_ne]; omega
  have hz3 : decide (32 < ((str l).size : Int)) = true := decide_eq_true (by omega)
  clear hn hl hm hz
  go_enter Tryz.func59, Tryz.ntmps59
  go_wp2
  go_ret
  exact ⟨rfl, Below.refl _ _⟩
theorem name_all (l : List UInt8) (hm : l.length ≤ 9223372036854775807) (w : World) : Calls Tryz.prog 59 #[.string (str l)] w fun e w' => e = .returned (.bool (isName l)) ∧ Below w.heap.size w w' := by
  by_cases h : 32 < l.length
  · exact name_long l h hm w
  · exact name_any l (by omega) w

/-! ### rows of fields -/
/-- The fields L stand in block a. -/
def Flds (w : World) (a : Nat) (L : List (Tx × Bool)) : Prop := a < w.heap.size ∧ ∀ (i : Nat) (f : Tx × Bool), L[i]? = some f → w.cell? ⟨a, i * 2, none⟩ = some (.string (str f.1)) ∧ w.cell? ⟨a, i * 2 + 1, none⟩ = some (.bool f.2)
theorem Flds.next {w w' : World} {a : Nat} {L : List (Tx × Bool)} (h : Flds w a L) (hb : Below w.heap.size w w') : Flds w' a L :=
  ⟨Nat.lt_of_lt_of_le h.1 hb.size, fun i f hf => ⟨(Below.cell hb h.1).trans (h.2 i f hf).1, (Below.cell hb h.1).trans (h.2 i f hf).2⟩⟩
theorem Flds.but {R : Nat} {w w' : World} {a : Nat} {L : List (Tx × Bool)} (h : Flds w a L) (hb : But R w w') (hne : a ≠ R) : Flds w' a L :=
  ⟨Nat.lt_of_lt_of_le h.1 hb.size, fun i f hf => ⟨hb.cell (h.2 i f hf).1 hne, hb.cell (h.2 i f hf).2 hne⟩⟩
def rowV (k a : Nat) : Value := .agg #[.int .u8 (k : Nat), .slice (some ⟨a, 0, none⟩) (fldL k).length (fldL k).length]

end Go.Proofs.YtpmghgfgbkncoaaGreatDoor.gn
end
section
set_option linter.unusedVariables false
set_option linter.unusedSimpArgs false
namespace Go.Proofs.YtpmghgfgbkncoaaGreatDoor.gn

def pureVal (a : Act) : Op → Option Value
  | .move x => some (a.eval x)
  | .assign x => some (a.eval x)
  | .pick c x y => match a.eval c with
    | .bool true => some (a.eval x)
    | .bool false => some (a.eval y)
    | _ => none
  | _ => none
def tailOps (ops : Array Oper) : List Oper → Act → Option Act
  | [], a => some a
  | o :: r, a => match Region.wanted o (yielded ops a.tmps) with
    | true => match pureVal a o.op with
      | some v => tailOps ops r (a.put o.dst v)
      | none => none
    | false => tailOps ops r (a.put o.dst undef)
section
variable {P : Program} {ops : Array Oper} {Q : Exit → Act → World → Prop} {a : Act} {w : World}
theorem pure_wp {o : Oper} {v : Value} {K : Act → World → Prop} (h : pureVal a o.op = some v) (hK : K (a.put o.dst v) w) : o.wp P a w K Q := by
  have hr : (execOp a.eval o).run P w = .ok (.value v) w := by
    obtain ⟨dst, op, ty, pos, after, guard⟩ := o
    cases op <;> simp only [pureVal] at h <;> first | (cases h; done) | skip
    case move => cases h; simp [execOp, go_sem]
    case assign => cases h; simp [execOp, go_sem]
    case pick =>
      generalize a.eval = ev at h ⊢
      split at h
      · next he => cases h; simp [execOp, go_sem, he]
      · next he => cases h; simp [execOp, go_sem, he]
      · cases h
  unfold Oper.wp
  rw [hr]
  exact hK
theorem tail_wp : ∀ (l : List Oper) (a a' : Act), tailOps ops l a = some a' → Q .normal a' w → wpList P ops Q l a w
  | [], a, a', h, hq => by cases h; exact hq
  | o :: r, a, a', h, hq => by
    unfold tailOps at h
    cases hw : Region.wanted o (yielded ops a.tmps) with
    | true =>
      rw [hw] at h
      dsimp only at h
      cases hv : pureVal a o.op with
      | none => rw [hv] at h; cases h
      | some v =>
        rw [hv] at h
        refine wpList_step fun K hK => ?_
        rw [if_pos hw]
        exact pure_wp hv (hK _ _ (tail_wp r _ a' h hq))
    | false =>
      rw [hw] at h
      exact wpList_skip hw (tail_wp r _ a' h hq)
/-- The tail, where one slot is looked at behind it. -/
theorem tail_at {l : List Oper} (i : Nat) (v : Value) (h : (tailOps ops l a).map (fun a' => (a'.tmps.getD i undef, a'.defers)) = some (v, [])) (hQ : ∀ tmps : Array Value, tmps.getD i undef = v → Q .normal ⟨tmps, []⟩ w) : wpList P ops Q l a w := by
  cases ht : tailOps ops l a with
  | none => rw [ht] at h; cases h
  | some a' =>
    rw [ht] at h
    obtain ⟨t, d⟩ := a'
    simp only [Option.map_some, Option.some.injEq, Prod.mk.injEq] at h
    obtain ⟨h1, rfl⟩ := h
    exact tail_wp l a _ ht (hQ t h1)
/-- A guard whose value is not known: both ways. -/
theorem guard_split {o : Oper} {r : List Oper} {g : Nat} {pol b : Bool} (_ : o.guard = some (g, pol)) (_ : yielded ops a.tmps g = some b)
    (h1 : b = true → wpList P ops Q (o :: r) a w) (h0 : b = false → wpList P ops Q (o :: r) a w) : wpList P ops Q (o :: r) a w := by
  cases b
  · exact h0 rfl
  · exact h1 rfl
end
end Go.Proofs.YtpmghgfgbkncoaaGreatDoor.gn
end
