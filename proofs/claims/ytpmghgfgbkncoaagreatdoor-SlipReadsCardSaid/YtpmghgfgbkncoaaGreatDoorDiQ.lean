/- Directives, plain: what the laws want: a text is read again, in any order, not with a field less or twice. -/
import Derived.Test.YtpmghgfgbkncoaaGreatDoorDiO
set_option linter.unusedVariables false
namespace Go.Proofs.YtpmghgfgbkncoaaGreatDoor.di
open Go.Proofs.YtpmghgfgbkncoaaGreatDoor.un
open Go.Lib (decDigits)

theorem joinW_snoc : ∀ (L : List Tx) (x : Tx), L ≠ [] → joinW (L ++ [x]) = joinW L ++ 32 :: x
  | [], _, h => absurd rfl h
  | [a], x, _ => rfl
  | a :: b :: r, x, _ => by
    rw [List.cons_append, joinW_cons a (by simp), joinW_snoc (b :: r) x (by simp), joinW_cons a (by simp), List.append_assoc]
    rfl
theorem words_two : ∀ (a r : Tx), words (a ++ 32 :: r) = words a ++ words r
  | [], r => words_bl r
  | b :: a, r => by
    have ih := words_two a r
    by_cases hb : b = 32
    · subst hb
      show words (32 :: (a ++ 32 :: r)) = words (32 :: a) ++ words r
      rw [words_bl, words_bl, ih]
      rfl
    · show words (b :: (a ++ 32 :: r)) = words (b :: a) ++ words r
      rw [words_nb hb, words_nb hb, ih]
      cases hw : words a with
      | nil => exact absurd hw (words_ne a)
      | cons h t => rfl
theorem mapM_snoc : ∀ (ws : List Tx) (x : Tx), (ws ++ [x]).mapM cut = match ws.mapM cut, cut x with
    | some fs, some f => some (fs ++ [f])
    | _, _ => none
  | [], x => by
    rw [List.nil_append, List.mapM_cons]
    cases cut x <;> rfl
  | w :: ws, x => by
    rw [List.cons_append, List.mapM_cons, mapM_snoc ws x, List.mapM_cons]
    cases cut w with
    | none => rfl
    | some f =>
      cases ws.mapM cut with
      | none => rfl
      | some fs => cases cut x <;> rfl

/-! ### a text that was written -/
theorem Made.line {d : Dir} {sv : Tx} {n : Nat} (h : Made d sv n) : line? (lineOf d.kind (fsOf d sv)) = some { d with size := if hasSize d.kind then (n : Int) else d.size } := by
  obtain ⟨c0, _⟩ := (chk_iff d).1 h.ok
  rw [line_line c0 (fun f hf => (h.wtx hf).1.1) (fun f hf => (h.wtx hf).2.1), if_pos h.good.1, h.good.2]
theorem made_text {d : Dir} (h : chk d = true) : Made d (stxt d.size) d.size.toNat := by
  refine ⟨h, fun hs => ?_⟩
  obtain ⟨c0, c1, cz, _⟩ := (chk_iff d).1 h
  have hp := c1.1 hs
  obtain ⟨m, hm⟩ : ∃ m : Nat, d.size = (m : Int) := ⟨d.size.toNat, by omega⟩
  rw [hm]
  refine ⟨plain_stxt _, ?_, by simp; omega, Nat.le_trans (stxt_len _) (by decide)⟩
  rw [Int.toNat_natCast]
  exact size_stxt (by unfold top; omega)
theorem text_read {d : Dir} (h : chk d = true) : line? (dtx d) = some d := by
  have hl := (made_text h).line
  unfold dtx
  rw [hl]
  obtain ⟨c0, c1, cz, _⟩ := (chk_iff d).1 h
  cases hs : hasSize d.kind with
  | false => simp
  | true => simp; cases d; simp at cz ⊢; omega
theorem made_kib {d : Dir} (h : chk d = true) (h0 : d.size ≤ 1073741824) : Made d (decDigits d.size.toNat ++ nm 3) (d.size.toNat * 1024) := by
  refine ⟨h, fun hs => ?_⟩
  obtain ⟨c0, c1, cz, _⟩ := (chk_iff d).1 h
  have hp := c1.1 hs
  have ht : d.size.toNat ≤ top := by unfold top; omega
  refine ⟨plain_app (plain_dec _) (plain_nm (by decide)), ?_, by omega, ?_⟩
  · rw [size_unit (by decide) ht, if_pos]
    · rfl
    · show d.size.toNat ≤ 1099511627776 / 1024
      omega
  · rw [List.length_append]
    have := dec_len ht
    have := nm_len (show 3 < 8 by decide)
    omega
theorem kib_read {d : Dir} (h : chk d = true) (hs : hasSize d.kind = true) (h0 : d.size ≤ 1073741824) : line? (lineOf d.kind (fsOf d (decDigits d.size.toNat ++ nm 3))) = some { d with size := d.size * 1024 } := by
  rw [(made_kib h h0).line, if_pos hs]
  obtain ⟨c0, c1, cz, _⟩ := (chk_iff d).1 h
  have : ((d.size.toNat * 1024 : Nat) : Int) = d.size * 1024 := by omega
  rw [this]

theorem joinW_len : ∀ (L : List Tx) (m : Nat), (∀ w ∈ L, w.length ≤ m) → (joinW L).length ≤ L.length * (m + 1)
  | [], m, _ => by simp [joinW]
  | [a], m, h => by
    have := h a (by simp)
    show a.length ≤ 1 * (m + 1)
    omega
  | a :: b :: r, m, h => by
    have h1 := h a (by simp)
    have h2 := joinW_len (b :: r) m fun w hw => h w (by simp [hw])
    rw [joinW_cons a (by simp), List.length_append, List.length_cons, List.length_cons (a := a), Nat.add_mul]
    omega
theorem kw_len {k : Nat} (h : 1 ≤ k ∧ k ≤ 6) : (kw k).length ≤ 50 := by
  have hc : k = 1 ∨ k = 2 ∨ k = 3 ∨ k = 4 ∨ k = 5 ∨ k = 6 := by omega
  rcases hc with rfl | rfl | rfl | rfl | rfl | rfl <;> decide
theorem Made.len {d : Dir} {sv : Tx} {n : Nat} (h : Made d sv n) : (lineOf d.kind (fsOf d sv)).length ≤ 306 := by
  obtain ⟨c0, _⟩ := (chk_iff d).1 h.ok
  unfold lineOf
  have hl := joinW_len (bbW :: kw d.kind :: (fsOf d sv).map di.wtx) 50 fun w hw => by
    rcases List.mem_cons.1 hw with rfl | hw
    · decide
    rcases List.mem_cons.1 hw with rfl | hw
    · exact kw_len c0
    obtain ⟨f, hf, rfl⟩ := List.mem_map.1 hw
    exact (h.wtx hf).2.2
  have h4 : (fsOf d sv).length ≤ 4 := by
    unfold fsOf
    cases hasName d.kind <;> cases hasSize d.kind <;> cases hasPool d.kind <;> cases d.opn <;> simp
  rw [List.length_cons, List.length_cons, List.length_map] at hl
  have : ((fsOf d sv).length + 1 + 1) * (50 + 1) ≤ 6 * 51 := Nat.mul_le_mul_right _ (by omega)
  omega

/-- No line feed, and no blank behind a blank: p is the byte ahead. -/
def neat : UInt8 → Tx → Bool
  | _, [] => true
  | p, b :: r => decide (b ≠ 10) && !(decide (b = 32) && decide (p = 32)) && neat b r
theorem neat_plain : ∀ (a : Tx) (p : UInt8) (r : Tx), plain a → a ≠ [] → neat p (a ++ 32 :: r) = neat 32 r
  | [], _, _, _, h => absurd rfl h
  | [b], p, r, h, _ => by
    have h1 : b ≠ 32 := fun e => h.1 (by simp [e])
    have h2 : b ≠ 10 := fun e => h.2 (by simp [e])
    show neat p (b :: 32 :: r) = _
    simp [neat, h1, h2]
  | b :: c :: a, p, r, h, _ => by
    have h1 : b ≠ 32 := fun e => h.1 (by simp [e])
    have h2 : b ≠ 10 := fun e => h.2 (by simp [e])
    have hp : plain (c :: a) := ⟨fun e => h.1 (List.mem_cons_of_mem _ e), fun e => h.2 (List.mem_cons_of_mem _ e)⟩
    have ih := neat_plain (c :: a) b r hp (by simp)
    show neat p (b :: (c :: a ++ 32 :: r)) = _
    rw [neat, ih]
    simp [h1, h2]
theorem neat_end : ∀ (a : Tx) (p : UInt8), plain a → neat p a = true
  | [], _, _ => rfl
  | b :: a, p, h => by
    have h1 : b ≠ 32 := fun e => h.1 (by simp [e])
    have h2 : b ≠ 10 := fun e => h.2 (by simp [e])
    have ih := neat_end a b ⟨fun e => h.1 (List.mem_cons_of_mem _ e), fun e => h.2 (List.mem_cons_of_mem _ e)⟩
    rw [neat, ih]
    simp [h1, h2]
theorem neat_join : ∀ (L : List Tx) (p : UInt8), (∀ w ∈ L, plain w ∧ w ≠ []) → neat p (joinW L) = true
  | [], _, _ => rfl
  | [a], p, h => neat_end a p (h a (by simp)).1
  | a :: b :: r, p, h => by
    rw [joinW_cons a (by simp), neat_plain a p _ (h a (by simp)).1 (h a (by simp)).2]
    exact neat_join (b :: r) 32 fun w hw => h w (by simp [hw])
theorem kw_plain {k : Nat} (h : 1 ≤ k ∧ k ≤ 6) : plain (kw k) ∧ kw k ≠ [] := by
  have hc : k = 1 ∨ k = 2 ∨ k = 3 ∨ k = 4 ∨ k = 5 ∨ k = 6 := by omega
  rcases hc with rfl | rfl | rfl | rfl | rfl | rfl <;> (unfold plain; decide)
theorem text_neat {d : Dir} (h : chk d = true) (p : UInt8) : neat p (dtx d) = true := by
  obtain ⟨c0, _⟩ := (chk_iff d).1 h
  unfold dtx lineOf
  refine neat_join _ _ fun w hw => ?_
  rcases List.mem_cons.1 hw with rfl | hw
  · unfold plain; decide
  rcases List.mem_cons.1 hw with rfl | hw
  · exact kw_plain c0
  obtain ⟨f, hf, rfl⟩ := List.mem_map.1 hw
  refine ⟨((made_text h).wtx hf).1, ?_⟩
  unfold wtx
  simp

/-! ### the fields in another order; one less; one twice; a blank more -/
theorem line_rev {l : Tx} {d : Dir} {k : Nat} {fs : List Fl} (hk : 1 ≤ k ∧ k ≤ 6) (h1 : ∀ f ∈ fs, (32 : UInt8) ∉ wtx f) (h2 : ∀ f ∈ fs, (61 : UInt8) ∉ f.1) (hg : good k fs) :
    line? (lineOf k fs.reverse) = some (dirOf k fs) := by
  have hp : fs.Perm fs.reverse := (List.reverse_perm fs).symm
  rw [line_line hk (fun f hf => h1 f (by simpa using hf)) (fun f hf => h2 f (by simpa using hf)), if_pos (good_perm hp hg), dirOf_perm hp hg.1]
theorem allow_req {k : Nat} {key : Tx} (h : allow k key = true) (hn : key ≠ accK) : key ∈ req k := by
  unfold allow at h
  simp only [Bool.or_eq_true, Bool.and_eq_true, beq_iff_eq] at h
  rcases h with ((h | h) | h) | h
  · exact mem_req.2 (.inr (.inl h))
  · exact mem_req.2 (.inl h)
  · exact mem_req.2 (.inr (.inr h))
  · exact absurd h.2 hn
theorem acc_req (k : Nat) : accK ∉ req k := by
  obtain ⟨_, _, n3⟩ := sz_ne k
  intro h
  rcases mem_req.1 h with ⟨_, e⟩ | ⟨_, e⟩ | ⟨_, e⟩
  · exact absurd e (by decide)
  · exact n3 e.symm
  · exact absurd e (by decide)
/-- A row with one field parted from the others. -/
theorem line_less {k : Nat} {as bs : List Fl} {f : Fl} (hk : 1 ≤ k ∧ k ≤ 6) (h1 : ∀ g ∈ as ++ f :: bs, (32 : UInt8) ∉ wtx g) (h2 : ∀ g ∈ as ++ f :: bs, (61 : UInt8) ∉ g.1) (hg : good k (as ++ f :: bs)) :
    line? (lineOf k (as ++ bs)) = if f.1 = accK then some { dirOf k (as ++ f :: bs) with opn := false } else none := by
  have hsub : ∀ g, g ∈ as ++ bs → g ∈ as ++ f :: bs := fun g hg => by
    rcases List.mem_append.1 hg with h | h
    · exact List.mem_append_left _ h
    · exact List.mem_append_right _ (List.mem_cons_of_mem _ h)
  rw [line_line hk (fun g hg => h1 g (hsub g hg)) (fun g hg => h2 g (hsub g hg))]
  obtain ⟨g1, g2, g3⟩ := hg
  have hkeys : keys (as ++ f :: bs) = keys as ++ f.1 :: keys bs := by simp [keys]
  have hkeys2 : keys (as ++ bs) = keys as ++ keys bs := by simp [keys]
  have hnd := g1
  rw [hkeys] at hnd
  have hperm : (keys as ++ f.1 :: keys bs).Perm (f.1 :: (keys as ++ keys bs)) := List.perm_middle
  have hnd2 := hperm.nodup_iff.1 hnd
  rw [List.nodup_cons] at hnd2
  by_cases hf : f.1 = accK
  · rw [if_pos hf]
    have hgood : good k (as ++ bs) := by
      refine ⟨by rw [hkeys2]; exact hnd2.2, fun g hg => g2 g (hsub g hg), fun r hr => ?_⟩
      have := g3 r hr
      rw [hkeys] at this
      rw [hkeys2]
      rcases List.mem_cons.1 (hperm.mem_iff.1 this) with e | e
      · exact absurd (by rw [e, hf] at hr; exact hr) (acc_req k)
      · exact e
    rw [if_pos hgood]
    have hp : (as ++ f :: bs).Perm ((as ++ bs) ++ [f]) := by
      refine List.perm_middle.trans ?_
      exact (List.perm_append_comm (l₁ := [f]) (l₂ := as ++ bs))
    rw [dirOf_perm hp g1]
    have hn : f.1 ∉ keys (as ++ bs) := by rw [hkeys2]; exact hnd2.1
    obtain ⟨_, _, n3⟩ := sz_ne k
    unfold dirOf
    rw [look_snoc hn, look_snoc hn, look_snoc hn, hf, if_neg (by decide), if_neg (by decide), if_neg (Ne.symm n3), look_none (key := accK) (by rw [← hf]; exact hn)]
    rfl
  · rw [if_neg hf, if_neg]
    intro hgood
    have := hgood.2.2 f.1 (allow_req (g2 f (by simp)).1 hf)
    rw [hkeys2] at this
    exact hnd2.1 this
theorem line_twice {l : Tx} {k : Nat} {fs : List Fl} {f : Fl} (hw : words l = bbW :: kw k :: fs.map wtx) (hk : 1 ≤ k ∧ k ≤ 6) (h1 : ∀ g ∈ fs, (32 : UInt8) ∉ wtx g) (h2 : ∀ g ∈ fs, (61 : UInt8) ∉ g.1) (hf : f ∈ fs) : line? (l ++ 32 :: wtx f) = none := by
  unfold line?
  rw [words_two, hw, words_one _ (h1 f hf)]
  show (match bbW :: kw k :: (fs.map wtx ++ [wtx f]) with
    | b :: w :: ws => if b = bbW then match kind? w with
      | some k => fields? k ws
      | none => none
      else none
    | _ => none) = none
  dsimp only
  rw [if_pos rfl, kind_kw hk]
  dsimp only
  unfold fields?
  rw [mapM_snoc, mapM_wtx h2, cut_wtx (h2 f hf)]
  dsimp only
  rw [if_neg]
  rintro ⟨g1, _⟩
  rw [keys_snoc, List.nodup_append] at g1
  exact g1.2.2 f.1 (List.mem_map.2 ⟨f, hf, rfl⟩) f.1 (by simp) rfl
theorem line_blank {l : Tx} {k : Nat} {fs : List Fl} (hw : words l = bbW :: kw k :: fs.map wtx) (hk : 1 ≤ k ∧ k ≤ 6) : line? (l ++ [32]) = none := by
  unfold line?
  rw [words_two, hw]
  show (match bbW :: kw k :: (fs.map wtx ++ [[]]) with
    | b :: w :: ws => if b = bbW then match kind? w with
      | some k => fields? k ws
      | none => none
      else none
    | _ => none) = none
  dsimp only
  rw [if_pos rfl, kind_kw hk]
  dsimp only
  unfold fields?
  rw [mapM_snoc]
  cases (fs.map wtx).mapM cut <;> rfl
end Go.Proofs.YtpmghgfgbkncoaaGreatDoor.di
