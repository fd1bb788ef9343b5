/- strings.Split, Cut at any byte; rows of the reader that are appended to; nodes, wall, qos; after. (Written by gen_slB.py.) -/
import Derived.Test.YtekcjfdllclphaaGreatDoorMSlA
import Derived.Deep.RegionHeld3
section
set_option linter.unusedVariables false
set_option linter.unusedSimpArgs false
namespace Go.Proofs.YtekcjfdllclphaaGreatDoor.sp
open Go.Proofs.YtekcjfdllclphaaGreatDoor.un
open Go.Proofs.YtekcjfdllclphaaGreatDoor.di
open Go.Proofs.YtekcjfdllclphaaGreatDoor.gn (str str_size)

theorem cuts_spec (c : UInt8) : ∀ (n : Nat) (l : Tx), l.length ≤ n → Lib.splitK [c] 0 (Lib.count l [c]) l = cuts c l ∧ Lib.count l [c] + 1 = (cuts c l).length
  | n, l, hn => by
    by_cases hm : c ∈ l
    · obtain ⟨a, r, rfl, ha⟩ := List.eq_append_cons_of_mem hm
      have hi := idx_app a r ha
      have hd : (a ++ c :: r).drop (a.length + 1) = r := by
        rw [List.drop_append]
        simp
      have hc : Lib.count (a ++ c :: r) [c] = 1 + Lib.count r [c] := by
        have := Lib.count_hit (s := a ++ c :: r) (sub := [c]) (by simp) hi
        rw [this]
        congr 2
      rw [hc, cuts_app c a r ha]
      cases n with
      | zero => simp at hn
      | succ n =>
        obtain ⟨i1, i2⟩ := cuts_spec c n r (by simp at hn; omega)
        constructor
        · rw [Nat.add_comm 1]
          unfold Lib.splitK
          have hne : ¬ ((((a.length : Nat) : Int) == -1) = true) := by simp
          rw [hi, if_neg hne]
          congr 1
          · simp
          · rw [Int.toNat_natCast, show ([c] : Tx).length = 1 from rfl, hd]
            exact i1
        · rw [List.length_cons, ← i2]
          omega
    · have hi := idx_none hm
      have hc : Lib.count l [c] = 0 := Lib.count_miss hi
      rw [hc, cuts_one c l hm]
      exact ⟨rfl, rfl⟩
theorem countB_cuts (c : UInt8) (l : Tx) : Lib.countB (str l) (str [c]) + 1 = (cuts c l).length := by
  have h := (cuts_spec c l.length l (Nat.le_refl _)).2
  rw [← h]
  unfold Lib.countB
  congr 1
theorem splitB_cuts (c : UInt8) (l : Tx) : Lib.splitB (str [c]) 0 (Lib.countB (str l) (str [c])) (str l) = (cuts c l).map str := by
  have h := (cuts_spec c l.length l (Nat.le_refl _)).1
  apply map_str
  rw [Lib.splitB_data, ← h]
  have e1 : (str [c]).data.toList = [c] := rfl
  have e2 : (str l).data.toList = l := by simp [str]
  rw [e1, e2]
  unfold Lib.countB
  rw [e1, e2]
theorem cutB_mem (c : UInt8) : ∀ {l : Tx}, cutB c l = none ↔ c ∉ l
  | [] => by simp [cutB]
  | b :: l => by
    unfold cutB
    by_cases hb : b = c
    · simp [hb]
    · rw [if_neg hb]
      have := cutB_mem c (l := l)
      simp only [Option.map_eq_none_iff, this, List.mem_cons, not_or]
      exact ⟨fun h => ⟨fun e => hb e.symm, h⟩, fun h => h.2⟩
theorem cutB_some (c : UInt8) : ∀ (l a r : Tx), cutB c l = some (a, r) → l = a ++ c :: r ∧ c ∉ a
  | [], a, r, h => by cases h
  | b :: l, a, r, h => by
    unfold cutB at h
    by_cases hb : b = c
    · rw [if_pos hb] at h
      cases h
      exact ⟨by rw [hb]; rfl, by simp⟩
    · rw [if_neg hb] at h
      obtain ⟨p, hp, e⟩ := Option.map_eq_some_iff.1 h
      cases e
      obtain ⟨h1, h2⟩ := cutB_some c l p.1 p.2 hp
      refine ⟨by rw [List.cons_append, ← h1], ?_⟩
      simp only [List.mem_cons, not_or]
      exact ⟨fun e => hb e.symm, h2⟩
/-- What Cut tells: what is ahead, what is behind. -/
def fldB (c : UInt8) (w : Tx) : Tx × Tx := (cutB c w).getD (w, [])
theorem cutB_lib (c : UInt8) (w : Tx) : Lib.cut w [c] = ((fldB c w).1, (fldB c w).2, (cutB c w).isSome) := by
  unfold Lib.cut fldB
  cases hc : cutB c w with
  | none =>
    rw [idx_none ((cutB_mem c).1 hc), if_neg (by decide)]
    rfl
  | some f =>
    obtain ⟨e, hn⟩ := cutB_some c w f.1 f.2 hc
    have hi := idx_app f.1 f.2 hn
    rw [← e] at hi
    rw [hi, if_pos (by omega)]
    simp only [Int.toNat_natCast, Option.getD_some, Option.isSome_some]
    have h1 : w.take f.1.length = f.1 := by rw [e]; simp
    have h2 : w.drop (f.1.length + ([c] : Tx).length) = f.2 := by
      rw [e, List.drop_append]
      simp
    rw [h1, h2]
theorem fldB_len (c : UInt8) (x : Tx) : (fldB c x).1.length ≤ x.length ∧ (fldB c x).2.length ≤ x.length := by
  unfold fldB
  cases hc : cutB c x with
  | none => simp
  | some f =>
    obtain ⟨e, _⟩ := cutB_some c x f.1 f.2 hc
    simp only [Option.getD_some]
    rw [e]
    simp
    omega
theorem cuts_len (c : UInt8) : ∀ l : Tx, (cuts c l).length ≤ l.length + 1
  | [] => by simp [cuts]
  | b :: r => by
    have ih := cuts_len c r
    by_cases hb : b = c
    · subst hb
      rw [cuts_bl, List.length_cons, List.length_cons]
      omega
    · rw [cuts_nb hb]
      cases hc : cuts c r with
      | nil => exact absurd hc (cuts_ne c r)
      | cons h t => rw [hc] at ih; simp only [List.length_cons] at ih ⊢; omega
theorem cuts_mem_len (c : UInt8) : ∀ (l w : Tx), w ∈ cuts c l → w.length ≤ l.length
  | [], w, h => by simp [cuts] at h; subst h; simp
  | b :: r, w, h => by
    have ih := cuts_mem_len c r
    by_cases hb : b = c
    · subst hb
      rw [cuts_bl] at h
      rcases List.mem_cons.1 h with rfl | h
      · simp
      · have := ih w h; simp only [List.length_cons]; omega
    · rw [cuts_nb hb] at h
      cases hc : cuts c r with
      | nil => exact absurd hc (cuts_ne c r)
      | cons x t =>
        rw [hc] at h ih
        rcases List.mem_cons.1 h with rfl | h
        · have := ih x (by simp); simp only [List.length_cons]; omega
        · have := ih w (by simp [h]); simp only [List.length_cons]; omega
end Go.Proofs.YtekcjfdllclphaaGreatDoor.sp
namespace Go.Proofs.YtekcjfdllclphaaGreatDoor.gn
open Go.RowKit
open Go.Proofs.YtekcjfdllclphaaGreatDoor.un
open Go.Proofs.YtekcjfdllclphaaGreatDoor.di
open Go.Proofs.YtekcjfdllclphaaGreatDoor.sp (Slip cuts cutB within? dep? fput frun first? userK nodesK wallK qosK afterK okW anyW jobW pput pline pread chkS Ok shortP soundP waitsP storedP apartP dirsP dropD useD capD innD outD txtS line1 dirsS sread fldB fldB_len cutB_lib cuts_len cuts_mem_len countB_cuts splitB_cuts)

theorem cut_c (c : UInt8) (x : Tx) (hx : x.length ≤ 100000) (w : World) (hL : LaidD w) :
    Calls Tryz.prog 16 #[.string (str x), .string { data := #[c] }] w (Told (.tuple #[.string (str (fldB c x).1), .string (str (fldB c x).2), .bool (cutB c x).isSome]) w) := by
  obtain ⟨m, hm⟩ := hL.max
  refine (Any.strings_Cut layCut (str x) (str [c]) m w (by rw [str_size]; omega) hm).mono ?_
  rintro e w' ⟨he, n, hw⟩
  have e1 : (str x).data.toList = x := by simp [str]
  have e2 : (str [c]).data.toList = [c] := rfl
  rw [e1, e2, cutB_lib] at he
  exact ⟨he, by rw [hw]; exact Joins.below_draws _ _ _⟩
theorem split_c (c : UInt8) (l : Tx) (hl : l.length ≤ 100000) (w : World) (hL : LaidD w) :
    Calls Tryz.prog 107 #[.string (str l), .string { data := #[c] }] w fun e w' => e = .returned (.slice (some ⟨w.heap.size, 0, none⟩) (cuts c l).length (cuts c l).length) ∧ Prts w' w.heap.size 0 (cuts c l) ∧ Below w.heap.size w w' := by
  obtain ⟨m, hm⟩ := hL.max
  refine (Any.strings_Split laySplit (by kernel_rfl) (str l) (str [c]) m w (by rw [str_size]; omega) hm (by rw [str_size]; simp)).mono ?_
  rintro e w' ⟨he, hw⟩
  rw [countB_cuts] at he
  rw [splitB_cuts] at hw
  refine ⟨he, ⟨by rw [hw]; simp, fun i x hx => ?_⟩, by rw [hw]; exact (Below.refl _ _).alloc (Nat.le_refl _) _⟩
  rw [hw, World.cell?_alloc_mark]
  simp [hx]

/-! ### an append to a row of the reader -/
theorem step_app {t e : TypeId} {z : Value} {size bytes : Nat} (E : EltI t e z size bytes) {ops : Array Oper} {o : Oper} {a : Act} {w : World} {K : Act → World → Prop} {Q : Exit → Act → World → Prop} {EE : Prop} (hgd : o.guard = none) (s x : Operand)
    (ho : o.op = .call { callee := .builtin .append, args := #[s, x], argTypes := #[t, t] })
    {base n : Nat} {v : Value} {cs : List Value} (hs : a.eval s = v) (hown : w.ownsRow base e size v n cs) (ad : Addr) (ds : List Value) (hx : a.eval x = .slice (some ad) 1 1) (hc : ∀ j u, ds[j]? = some u → w.cell? (ad.add j) = some u) (hd : ds.length = size)
    (h1 : ∀ u ∈ ds, u.oneCell' = true) (hlen : n ≤ 1000000) (hby : bytes ≤ 100) (hb : base ≤ w.heap.size)
    (hK : ∀ g c w', w'.ownsRow base e size (.slice (some ⟨g, 0, none⟩) (n + 1) c) (n + 1) (cs ++ ds) → w.grownBy w' v.ownBlock → (some g = v.ownBlock ∨ g = w.heap.size) → K (a.put o.dst (.slice (some ⟨g, 0, none⟩) (n + 1) c)) w') :
    if Region.wanted o (yielded ops a.tmps) = true then Oper.wp Tryz.prog o a w K Q else EE := by
  have hw : Region.wanted o (yielded ops a.tmps) = true := by simp [Region.wanted, hgd]
  rw [if_pos hw]
  obtain ⟨v', w', hrun, r1, r2, r4⟩ := run_own E o.type hown hc (by rw [hd, Nat.one_mul]) h1 (show n + 1 ≤ maxLen by unfold maxLen; omega) (by have : (n + 1) * bytes ≤ 1000001 * 100 := Nat.mul_le_mul (by omega) hby; omega) hb (show 0 < 1 by decide) (c := 1)
  have hform : ∃ g c, v' = .slice (some ⟨g, 0, none⟩) (n + 1) c := by
    rcases r1.2 with ⟨_, h0⟩ | ⟨g, cap, cur, e, _⟩
    · omega
    · exact ⟨_, _, e⟩
  obtain ⟨g, c, rfl⟩ := hform
  unfold Oper.wp
  simp [execOp, ho, resolve, invoke, builtin, hs, hx, hrun, Result.andThen]
  refine hK g c w' r1 r2 ?_
  rcases r4 with e | e
  · exact .inl e
  · exact .inr (Option.some.inj e)
section
variable {w W1 w6 : World} {R : Nat} {x : Slip} {line : Int} {g : Gh}
theorem Rdr.mid_a (h : Rdr w R x line g) (hW : Below w.heap.size w W1) (h2 : W1.grownBy w6 g.a.ownBlock) : BoxA w6 R 107 (rcs x g line) := by
  have h1 : BoxA W1 R 107 (rcs x g line) := BoxA.next h.box hW
  exact (h2.block R h1.lt (fun e => by have := (World.ownsRow.lt h.a R e.symm).1; omega)).trans h1
theorem Rdr.push_a (h : Rdr w R x line g) (hW : Below w.heap.size w W1) (d : Dep) {v' : Value} (h1 : w6.ownsRow (R + 1) 88 2 v' (x.after.length + 1) (flA x.after ++ cA d)) (h2 : W1.grownBy w6 g.a.ownBlock) (h3 : v'.ownBlock = g.a.ownBlock ∨ v'.ownBlock = some W1.heap.size) :
    Rdr (w6.setCell ⟨R, 4, none⟩ v') R { x with after := x.after ++ [d] } line { g with a := v' } ∧ Kp R g { g with a := v' } w (w6.setCell ⟨R, 4, none⟩ v') := by
  have hbx := h.mid_a hW h2
  have hR := h.box.lt
  have hset : ∀ b, b ≠ R → (w6.setCell ⟨R, 4, none⟩ v').heap[b]? = w6.heap[b]? := fun b hb => Below.heap_setCell _ _ _ _ hb
  have hold : ∀ b, b < w.heap.size → b ≠ R → g.a.ownBlock ≠ some b → (w6.setCell ⟨R, 4, none⟩ v').heap[b]? = w.heap[b]? := fun b hb hne hn =>
    (hset b hne).trans ((h2.block b (Nat.lt_of_lt_of_le hb hW.size) (fun e => hn e.symm)).trans (hW.block b hb))
  have hrow : ∀ {e : TypeId} {size : Nat} {v : Value} {n : Nat} {cs : List Value}, w.ownsRow (R + 1) e size v n cs → (∀ b, v.ownBlock = some b → g.a.ownBlock ≠ some b) → (w6.setCell ⟨R, 4, none⟩ v').ownsRow (R + 1) e size v n cs := fun ho hn =>
    own_same ho fun b hb => hold b (World.ownsRow.lt ho b hb).2 (by have := (World.ownsRow.lt ho b hb).1; omega) (hn b hb)
  have hnew : (w6.setCell ⟨R, 4, none⟩ v').ownsRow (R + 1) 88 2 v' (x.after ++ [d]).length (flA (x.after ++ [d])) := by
    rw [List.length_append, flA_app]
    exact own_same h1 fun b hb => hset b (by have := (World.ownsRow.lt h1 b hb).1; omega)
  refine ⟨⟨?_, hnew, hrow h.m (fun b hb e => own_apart h.m h.a (by decide) hb e), hrow h.d (fun b hb e => own_apart h.d h.a (by decide) hb e), hrow h.u (fun b hb e => own_apart h.u h.a (by decide) hb e), h.du⟩, ⟨?_, fun b hb hm => hold b hb (fun e => hm (.inl e)) (fun e => hm (.inr (.inl e))), fun b hb => ?_⟩⟩
  · exact hbx.set 4 v'
  · have hlow : Below R w W1 := hW.mono (Nat.le_of_lt hR)
    refine (hlow.grown h2 (Nat.le_trans (Nat.le_of_lt hR) hW.size) (fun b e => by have := (World.ownsRow.lt h.a b e).1; omega)).setCell (p := ⟨R, 4, none⟩) (Nat.le_refl _) v'
  · rcases hb with hb | hb | hb | hb | hb
    · exact .inl (.inl hb)
    · rcases h3 with h4 | h4
      · exact .inl (.inr (.inl (h4.symm.trans hb)))
      · have h5 : b = W1.heap.size := Option.some.inj (hb.symm.trans h4)
        exact .inr (by rw [h5]; exact hW.size)
    · exact .inl (.inr (.inr (.inl hb)))
    · exact .inl (.inr (.inr (.inr (.inl hb))))
    · exact .inl (.inr (.inr (.inr (.inr hb))))
theorem Rdr.mid_m (h : Rdr w R x line g) (hW : Below w.heap.size w W1) (h2 : W1.grownBy w6 g.m.ownBlock) : BoxA w6 R 107 (rcs x g line) := by
  have h1 : BoxA W1 R 107 (rcs x g line) := BoxA.next h.box hW
  exact (h2.block R h1.lt (fun e => by have := (World.ownsRow.lt h.m R e.symm).1; omega)).trans h1
theorem Rdr.push_m (h : Rdr w R x line g) (hW : Below w.heap.size w W1) (d : Dir) {v' : Value} (h1 : w6.ownsRow (R + 1) 80 5 v' (x.make.length + 1) (flM x.make ++ cM d)) (h2 : W1.grownBy w6 g.m.ownBlock) (h3 : v'.ownBlock = g.m.ownBlock ∨ v'.ownBlock = some W1.heap.size) :
    Rdr (w6.setCell ⟨R, 9, none⟩ v') R { x with make := x.make ++ [d] } line { g with m := v' } ∧ Kp R g { g with m := v' } w (w6.setCell ⟨R, 9, none⟩ v') := by
  have hbx := h.mid_m hW h2
  have hR := h.box.lt
  have hset : ∀ b, b ≠ R → (w6.setCell ⟨R, 9, none⟩ v').heap[b]? = w6.heap[b]? := fun b hb => Below.heap_setCell _ _ _ _ hb
  have hold : ∀ b, b < w.heap.size → b ≠ R → g.m.ownBlock ≠ some b → (w6.setCell ⟨R, 9, none⟩ v').heap[b]? = w.heap[b]? := fun b hb hne hn =>
    (hset b hne).trans ((h2.block b (Nat.lt_of_lt_of_le hb hW.size) (fun e => hn e.symm)).trans (hW.block b hb))
  have hrow : ∀ {e : TypeId} {size : Nat} {v : Value} {n : Nat} {cs : List Value}, w.ownsRow (R + 1) e size v n cs → (∀ b, v.ownBlock = some b → g.m.ownBlock ≠ some b) → (w6.setCell ⟨R, 9, none⟩ v').ownsRow (R + 1) e size v n cs := fun ho hn =>
    own_same ho fun b hb => hold b (World.ownsRow.lt ho b hb).2 (by have := (World.ownsRow.lt ho b hb).1; omega) (hn b hb)
  have hnew : (w6.setCell ⟨R, 9, none⟩ v').ownsRow (R + 1) 80 5 v' (x.make ++ [d]).length (flM (x.make ++ [d])) := by
    rw [List.length_append, flM_app]
    exact own_same h1 fun b hb => hset b (by have := (World.ownsRow.lt h1 b hb).1; omega)
  refine ⟨⟨?_, hrow h.a (fun b hb e => own_apart h.a h.m (by decide) hb e), hnew, hrow h.d (fun b hb e => own_apart h.d h.m (by decide) hb e), hrow h.u (fun b hb e => own_apart h.u h.m (by decide) hb e), h.du⟩, ⟨?_, fun b hb hm => hold b hb (fun e => hm (.inl e)) (fun e => hm (.inr (.inr (.inl e)))), fun b hb => ?_⟩⟩
  · exact hbx.set 9 v'
  · have hlow : Below R w W1 := hW.mono (Nat.le_of_lt hR)
    refine (hlow.grown h2 (Nat.le_trans (Nat.le_of_lt hR) hW.size) (fun b e => by have := (World.ownsRow.lt h.m b e).1; omega)).setCell (p := ⟨R, 9, none⟩) (Nat.le_refl _) v'
  · rcases hb with hb | hb | hb | hb | hb
    · exact .inl (.inl hb)
    · exact .inl (.inr (.inl hb))
    · rcases h3 with h4 | h4
      · exact .inl (.inr (.inr (.inl (h4.symm.trans hb))))
      · have h5 : b = W1.heap.size := Option.some.inj (hb.symm.trans h4)
        exact .inr (by rw [h5]; exact hW.size)
    · exact .inl (.inr (.inr (.inr (.inl hb))))
    · exact .inl (.inr (.inr (.inr (.inr hb))))
theorem Rdr.mid_d (h : Rdr w R x line g) (hW : Below w.heap.size w W1) (h2 : W1.grownBy w6 g.d.ownBlock) : BoxA w6 R 107 (rcs x g line) := by
  have h1 : BoxA W1 R 107 (rcs x g line) := BoxA.next h.box hW
  exact (h2.block R h1.lt (fun e => by have := (World.ownsRow.lt h.d R e.symm).1; omega)).trans h1
theorem Rdr.push_d (h : Rdr w R x line g) (hW : Below w.heap.size w W1) (d : Tx) {v' : Value} (h1 : w6.ownsRow (R + 1) 9 1 v' (x.drop.length + 1) (flS x.drop ++ cS d)) (h2 : W1.grownBy w6 g.d.ownBlock) (h3 : v'.ownBlock = g.d.ownBlock ∨ v'.ownBlock = some W1.heap.size) :
    Rdr (w6.setCell ⟨R, 10, none⟩ v') R { x with drop := x.drop ++ [d] } line { g with d := v' } ∧ Kp R g { g with d := v' } w (w6.setCell ⟨R, 10, none⟩ v') := by
  have hbx := h.mid_d hW h2
  have hR := h.box.lt
  have hset : ∀ b, b ≠ R → (w6.setCell ⟨R, 10, none⟩ v').heap[b]? = w6.heap[b]? := fun b hb => Below.heap_setCell _ _ _ _ hb
  have hold : ∀ b, b < w.heap.size → b ≠ R → g.d.ownBlock ≠ some b → (w6.setCell ⟨R, 10, none⟩ v').heap[b]? = w.heap[b]? := fun b hb hne hn =>
    (hset b hne).trans ((h2.block b (Nat.lt_of_lt_of_le hb hW.size) (fun e => hn e.symm)).trans (hW.block b hb))
  have hrow : ∀ {e : TypeId} {size : Nat} {v : Value} {n : Nat} {cs : List Value}, w.ownsRow (R + 1) e size v n cs → (∀ b, v.ownBlock = some b → g.d.ownBlock ≠ some b) → (w6.setCell ⟨R, 10, none⟩ v').ownsRow (R + 1) e size v n cs := fun ho hn =>
    own_same ho fun b hb => hold b (World.ownsRow.lt ho b hb).2 (by have := (World.ownsRow.lt ho b hb).1; omega) (hn b hb)
  have hnew : (w6.setCell ⟨R, 10, none⟩ v').ownsRow (R + 1) 9 1 v' (x.drop ++ [d]).length (flS (x.drop ++ [d])) := by
    rw [List.length_append, flS_app]
    exact own_same h1 fun b hb => hset b (by have := (World.ownsRow.lt h1 b hb).1; omega)
  refine ⟨⟨?_, hrow h.a (fun b hb e => own_apart h.a h.d (by decide) hb e), hrow h.m (fun b hb e => own_apart h.m h.d (by decide) hb e), hnew, hrow h.u (fun b hb e => h.du b e hb), fun b hb e => (h3.elim (fun h4 => h.du b (h4.symm.trans hb) e) (fun h4 => by
    have h5 : b = W1.heap.size := Option.some.inj (hb.symm.trans h4)
    have := (World.ownsRow.lt h.u b e).2
    have := hW.size
    omega))⟩, ⟨?_, fun b hb hm => hold b hb (fun e => hm (.inl e)) (fun e => hm (.inr (.inr (.inr (.inl e))))), fun b hb => ?_⟩⟩
  · exact hbx.set 10 v'
  · have hlow : Below R w W1 := hW.mono (Nat.le_of_lt hR)
    refine (hlow.grown h2 (Nat.le_trans (Nat.le_of_lt hR) hW.size) (fun b e => by have := (World.ownsRow.lt h.d b e).1; omega)).setCell (p := ⟨R, 10, none⟩) (Nat.le_refl _) v'
  · rcases hb with hb | hb | hb | hb | hb
    · exact .inl (.inl hb)
    · exact .inl (.inr (.inl hb))
    · exact .inl (.inr (.inr (.inl hb)))
    · rcases h3 with h4 | h4
      · exact .inl (.inr (.inr (.inr (.inl (h4.symm.trans hb)))))
      · have h5 : b = W1.heap.size := Option.some.inj (hb.symm.trans h4)
        exact .inr (by rw [h5]; exact hW.size)
    · exact .inl (.inr (.inr (.inr (.inr hb))))
theorem Rdr.mid_u (h : Rdr w R x line g) (hW : Below w.heap.size w W1) (h2 : W1.grownBy w6 g.u.ownBlock) : BoxA w6 R 107 (rcs x g line) := by
  have h1 : BoxA W1 R 107 (rcs x g line) := BoxA.next h.box hW
  exact (h2.block R h1.lt (fun e => by have := (World.ownsRow.lt h.u R e.symm).1; omega)).trans h1
theorem Rdr.push_u (h : Rdr w R x line g) (hW : Below w.heap.size w W1) (d : Tx) {v' : Value} (h1 : w6.ownsRow (R + 1) 9 1 v' (x.use.length + 1) (flS x.use ++ cS d)) (h2 : W1.grownBy w6 g.u.ownBlock) (h3 : v'.ownBlock = g.u.ownBlock ∨ v'.ownBlock = some W1.heap.size) :
    Rdr (w6.setCell ⟨R, 11, none⟩ v') R { x with use := x.use ++ [d] } line { g with u := v' } ∧ Kp R g { g with u := v' } w (w6.setCell ⟨R, 11, none⟩ v') := by
  have hbx := h.mid_u hW h2
  have hR := h.box.lt
  have hset : ∀ b, b ≠ R → (w6.setCell ⟨R, 11, none⟩ v').heap[b]? = w6.heap[b]? := fun b hb => Below.heap_setCell _ _ _ _ hb
  have hold : ∀ b, b < w.heap.size → b ≠ R → g.u.ownBlock ≠ some b → (w6.setCell ⟨R, 11, none⟩ v').heap[b]? = w.heap[b]? := fun b hb hne hn =>
    (hset b hne).trans ((h2.block b (Nat.lt_of_lt_of_le hb hW.size) (fun e => hn e.symm)).trans (hW.block b hb))
  have hrow : ∀ {e : TypeId} {size : Nat} {v : Value} {n : Nat} {cs : List Value}, w.ownsRow (R + 1) e size v n cs → (∀ b, v.ownBlock = some b → g.u.ownBlock ≠ some b) → (w6.setCell ⟨R, 11, none⟩ v').ownsRow (R + 1) e size v n cs := fun ho hn =>
    own_same ho fun b hb => hold b (World.ownsRow.lt ho b hb).2 (by have := (World.ownsRow.lt ho b hb).1; omega) (hn b hb)
  have hnew : (w6.setCell ⟨R, 11, none⟩ v').ownsRow (R + 1) 9 1 v' (x.use ++ [d]).length (flS (x.use ++ [d])) := by
    rw [List.length_append, flS_app]
    exact own_same h1 fun b hb => hset b (by have := (World.ownsRow.lt h1 b hb).1; omega)
  refine ⟨⟨?_, hrow h.a (fun b hb e => own_apart h.a h.u (by decide) hb e), hrow h.m (fun b hb e => own_apart h.m h.u (by decide) hb e), hrow h.d (fun b hb e => h.du b hb e), hnew, fun b hb e => (h3.elim (fun h4 => h.du b hb (h4.symm.trans e)) (fun h4 => by
    have h5 : b = W1.heap.size := Option.some.inj (e.symm.trans h4)
    have := (World.ownsRow.lt h.d b hb).2
    have := hW.size
    omega))⟩, ⟨?_, fun b hb hm => hold b hb (fun e => hm (.inl e)) (fun e => hm (.inr (.inr (.inr (.inr e))))), fun b hb => ?_⟩⟩
  · exact hbx.set 11 v'
  · have hlow : Below R w W1 := hW.mono (Nat.le_of_lt hR)
    refine (hlow.grown h2 (Nat.le_trans (Nat.le_of_lt hR) hW.size) (fun b e => by have := (World.ownsRow.lt h.u b e).1; omega)).setCell (p := ⟨R, 11, none⟩) (Nat.le_refl _) v'
  · rcases hb with hb | hb | hb | hb | hb
    · exact .inl (.inl hb)
    · exact .inl (.inr (.inl hb))
    · exact .inl (.inr (.inr (.inl hb)))
    · exact .inl (.inr (.inr (.inr (.inl hb))))
    · rcases h3 with h4 | h4
      · exact .inl (.inr (.inr (.inr (.inr (h4.symm.trans hb)))))
      · have h5 : b = W1.heap.size := Option.some.inj (hb.symm.trans h4)
        exact .inr (by rw [h5]; exact hW.size)
end

set_option maxRecDepth 100000 in
theorem nodes_any {w : World} {R : Nat} {x : Slip} {line : Int} {g : Gh} (h : Rdr w R x line g) (v : Tx) (hv : v.length ≤ 140737488355328) (hL : LaidU w) :
    Calls Tryz.prog 132 #[.pointer (some ⟨R, 0, none⟩), .string (str v)] w (StoT2 R g ((within? v 1 64).map fun n => { x with nodes := (n : Int) }) line w) := by
  have HR := Lib.hid h
  have HN := Lib.hid (show Calls Tryz.prog 154 #[.pointer (some ⟨R, 0, none⟩), .string (str v), .int .i64 1, .int .i64 64] w (NumT (within? v 1 64) line w) from number_any h v hv 1 64 hL)
  clear h hv hL
  cases hn : within? v 1 64 with
  | none =>
    rw [hn] at HN
    clear hn
    go_enter Tryz.func132, Tryz.ntmps132
    go_wp2_with (go_at_call 154; ((with_reducible refine HN.out.mono ?_); rintro e w1 ⟨rfl, hb⟩); have HB := Lib.hid hb; clear hb)
    exact ⟨rfl, rfl, Lk.of g HB.out (Nat.le_of_lt HR.out.box.lt)⟩
  | some n =>
    rw [hn] at HN
    clear hn
    go_enter Tryz.func132, Tryz.ntmps132
    go_wp2_with (go_at_call 154; ((with_reducible refine HN.out.mono ?_); rintro e w1 ⟨rfl, hb⟩); have HB := Lib.hid hb; have c0 := (HR.out.next hb).box.cell 1 _; have f0 := (HR.out.next hb).box.free 1; have l0 := (HR.out.next hb).box.lt; clear hb)
    go_end0
    have h1 := HR.out.next HB.out
    exact ⟨rfl, g, h1.put 1 _ rfl rfl rfl rfl rfl, (Kp.of g HB.out (Nat.le_of_lt HR.out.box.lt)).trans (Kp.set g _ R 1 _)⟩

set_option maxRecDepth 100000 in
theorem wall_any {w : World} {R : Nat} {x : Slip} {line : Int} {g : Gh} (h : Rdr w R x line g) (v : Tx) (hv : v.length ≤ 140737488355328) (hL : LaidU w) :
    Calls Tryz.prog 133 #[.pointer (some ⟨R, 0, none⟩), .string (str v)] w (StoT2 R g ((within? v 1 1048576).map fun n => { x with wall := (n : Int) }) line w) := by
  have HR := Lib.hid h
  have HN := Lib.hid (show Calls Tryz.prog 154 #[.pointer (some ⟨R, 0, none⟩), .string (str v), .int .i64 1, .int .i64 1048576] w (NumT (within? v 1 1048576) line w) from number_any h v hv 1 1048576 hL)
  clear h hv hL
  cases hn : within? v 1 1048576 with
  | none =>
    rw [hn] at HN
    clear hn
    go_enter Tryz.func133, Tryz.ntmps133
    go_wp2_with (go_at_call 154; ((with_reducible refine HN.out.mono ?_); rintro e w1 ⟨rfl, hb⟩); have HB := Lib.hid hb; clear hb)
    exact ⟨rfl, rfl, Lk.of g HB.out (Nat.le_of_lt HR.out.box.lt)⟩
  | some n =>
    rw [hn] at HN
    clear hn
    go_enter Tryz.func133, Tryz.ntmps133
    go_wp2_with (go_at_call 154; ((with_reducible refine HN.out.mono ?_); rintro e w1 ⟨rfl, hb⟩); have HB := Lib.hid hb; have c0 := (HR.out.next hb).box.cell 2 _; have f0 := (HR.out.next hb).box.free 2; have l0 := (HR.out.next hb).box.lt; clear hb)
    go_end0
    have h1 := HR.out.next HB.out
    exact ⟨rfl, g, h1.put 2 _ rfl rfl rfl rfl rfl, (Kp.of g HB.out (Nat.le_of_lt HR.out.box.lt)).trans (Kp.set g _ R 2 _)⟩

set_option maxRecDepth 100000 in
theorem qos_any {w : World} {R : Nat} {x : Slip} {line : Int} {g : Gh} (h : Rdr w R x line g) (v : Tx) (hv : v.length ≤ 140737488355328) (hL : LaidU w) :
    Calls Tryz.prog 134 #[.pointer (some ⟨R, 0, none⟩), .string (str v)] w (StoT2 R g ((within? v 0 9).map fun n => { x with qos := (n : Int) }) line w) := by
  have HR := Lib.hid h
  have HN := Lib.hid (show Calls Tryz.prog 154 #[.pointer (some ⟨R, 0, none⟩), .string (str v), .int .i64 0, .int .i64 9] w (NumT (within? v 0 9) line w) from number_any h v hv 0 9 hL)
  clear h hv hL
  cases hn : within? v 0 9 with
  | none =>
    rw [hn] at HN
    clear hn
    go_enter Tryz.func134, Tryz.ntmps134
    go_wp2_with (go_at_call 154; ((with_reducible refine HN.out.mono ?_); rintro e w1 ⟨rfl, hb⟩); have HB := Lib.hid hb; clear hb)
    exact ⟨rfl, rfl, Lk.of g HB.out (Nat.le_of_lt HR.out.box.lt)⟩
  | some n =>
    rw [hn] at HN
    clear hn
    go_enter Tryz.func134, Tryz.ntmps134
    go_wp2_with (go_at_call 154; ((with_reducible refine HN.out.mono ?_); rintro e w1 ⟨rfl, hb⟩); have HB := Lib.hid hb; have c0 := (HR.out.next hb).box.cell 3 _; have f0 := (HR.out.next hb).box.free 3; have l0 := (HR.out.next hb).box.lt; clear hb)
    go_end0
    have h1 := HR.out.next HB.out
    exact ⟨rfl, g, h1.put 3 _ rfl rfl rfl rfl rfl, (Kp.of g HB.out (Nat.le_of_lt HR.out.box.lt)).trans (Kp.set g _ R 3 _)⟩
end Go.Proofs.YtekcjfdllclphaaGreatDoor.gn
end
