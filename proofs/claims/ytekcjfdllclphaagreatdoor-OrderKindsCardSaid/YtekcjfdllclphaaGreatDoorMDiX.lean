/- Directives, plain: the text with another size. -/
import Derived.Test.YtekcjfdllclphaaGreatDoorMDiP
import Derived.Test.YtekcjfdllclphaaGreatDoorMFiM
import Derived.Test.YtekcjfdllclphaaGreatDoorMGenLoad
import Derived.Test.YtekcjfdllclphaaGreatDoorMUnC
import Derived.Laws.StructEq
section
set_option linter.unusedVariables false
namespace Go.Proofs.YtekcjfdllclphaaGreatDoor.di
open Go.Proofs.YtekcjfdllclphaaGreatDoor.un
open Go.Lib (decDigits)

theorem neat_at : ∀ (l : Tx) (p : UInt8), neat p l = true → ∀ (i : Nat) (h : i < l.length), l[i] ≠ 10 ∧ (∀ j, i = j + 1 → l[i] = 32 → ∀ hj : j < l.length, l[j] ≠ 32)
  | [], p, _, i, h => by simp at h
  | b :: r, p, hn, i, h => by
    rw [neat, Bool.and_eq_true, Bool.and_eq_true] at hn
    obtain ⟨⟨h1, h2⟩, h3⟩ := hn
    cases i with
    | zero => exact ⟨by simpa using h1, fun j hj => by omega⟩
    | succ i =>
      have hi : i < r.length := by simpa using h
      have ih := neat_at r b h3 i hi
      refine ⟨ih.1, fun j hj => ?_⟩
      obtain rfl : i = j := by omega
      intro hb hj2
      cases i with
      | zero =>
        show b ≠ 32
        cases r with
        | nil => simp at hi
        | cons c r =>
          have hc : c = 32 := hb
          rw [neat, Bool.and_eq_true, Bool.and_eq_true] at h3
          intro e
          have := h3.1.2
          simp [hc, e] at this
      | succ i =>
        have := ih.2 i rfl hb (by omega)
        exact this

def capE : Tx := [99, 97, 112, 97, 99, 105, 116, 121, 61]
def sizE : Tx := [115, 105, 122, 101, 61]
/-- A word with another size. -/
def sub (kib w : Tx) : Tx := if 9 < w.length ∧ w.take 9 = capE then capE ++ kib else if 5 < w.length ∧ w.take 5 = sizE then sizE ++ kib else w
theorem sub_other {kib w : Tx} (h1 : w.take 9 ≠ capE) (h2 : w.take 5 ≠ sizE) : sub kib w = w := by
  unfold sub
  rw [if_neg fun h => h1 h.2, if_neg fun h => h2 h.2]
theorem sub_head {kib w : Tx} {b : UInt8} (hb : w.head? = some b) (h1 : b ≠ 99) (h2 : b ≠ 115) : sub kib w = w := by
  cases w with
  | nil => simp at hb
  | cons c r =>
    have : c = b := by simpa using hb
    subst this
    refine sub_other (fun h => ?_) (fun h => ?_)
    · have : c = 99 := by
        have := congrArg List.head? h
        simpa [capE] using this
      exact h1 this
    · have : c = 115 := by
        have := congrArg List.head? h
        simpa [sizE] using this
      exact h2 this
theorem sub_kw {kib : Tx} {k : Nat} (h : 1 ≤ k ∧ k ≤ 6) : sub kib (kw k) = kw k := by
  rcases six h with rfl | rfl | rfl | rfl | rfl | rfl <;> exact sub_other (by decide) (by decide)
theorem sub_bb (kib : Tx) : sub kib bbW = bbW := sub_other (by decide) (by decide)
theorem sub_cap {kib sv : Tx} (h : sv ≠ []) : sub kib (wtx (capK, sv)) = wtx (capK, kib) := by
  have hl : 0 < sv.length := List.length_pos_iff.2 h
  unfold sub
  rw [if_pos]
  · rfl
  · constructor
    · show 9 < (capK ++ 61 :: sv).length
      simp [capK]
      omega
    · rfl
theorem sub_siz {kib sv : Tx} (h : sv ≠ []) : sub kib (wtx (sizeK, sv)) = wtx (sizeK, kib) := by
  have hl : 0 < sv.length := List.length_pos_iff.2 h
  unfold sub
  rw [if_neg, if_pos]
  · rfl
  · constructor
    · show 5 < (sizeK ++ 61 :: sv).length
      simp [sizeK]
      omega
    · rfl
  · rintro ⟨_, h9⟩
    have := congrArg List.head? h9
    simp [wtx, sizeK, capE] at this
theorem stxt_ne {n : Int} (h : 0 < n ∧ n ≤ 1099511627776) : stxt n ≠ [] := by
  obtain ⟨m, rfl⟩ : ∃ m : Nat, n = (m : Int) := ⟨n.toNat, by omega⟩
  intro e
  have := size_stxt (n := m) (by unfold top; omega)
  rw [e, size_nil] at this
  cases this
/-- The words of a directive's text, each with another size, are those of the other text. -/
theorem sub_words {d : Dir} (h : chk d = true) (hs : hasSize d.kind = true) (kib : Tx) : ((bbW :: kw d.kind :: (fsOf d (stxt d.size)).map wtx).map (sub kib)) = bbW :: kw d.kind :: (fsOf d kib).map wtx := by
  obtain ⟨c0, c1, cz, c2, c3, c4, c5, c6⟩ := (chk_iff d).1 h
  have hz := stxt_ne (n := d.size) ⟨c1.1 hs, cz.2⟩
  rw [List.map_cons, List.map_cons, sub_bb, sub_kw c0]
  congr 2
  have hn : sub kib (wtx (nameK, d.name)) = wtx (nameK, d.name) := sub_head (b := 110) rfl (by decide) (by decide)
  have hp : sub kib (wtx (poolK, d.pool)) = wtx (poolK, d.pool) := sub_head (b := 112) rfl (by decide) (by decide)
  have ha : sub kib (wtx (accK, pubV)) = wtx (accK, pubV) := sub_head (b := 97) rfl (by decide) (by decide)
  have hsz : sub kib (wtx (szK d.kind, stxt d.size)) = wtx (szK d.kind, kib) := by
    rcases szK_cases d.kind with e | e <;> rw [e]
    · exact sub_cap hz
    · exact sub_siz hz
  unfold fsOf
  cases hasName d.kind <;> cases hasPool d.kind <;> cases d.opn <;> simp [hs, hn, hp, ha, hsz]
theorem words_dtx {d : Dir} (h : chk d = true) : words (dtx d) = bbW :: kw d.kind :: (fsOf d (stxt d.size)).map wtx := by
  have hm := made_text h
  exact words_line ((chk_iff d).1 h).1 (fun f hf => (hm.wtx hf).1.1)
/-- What DirectSizes writes. -/
def kibT (d : Dir) : Tx := decDigits d.size.toNat ++ nm 3
theorem kib_line {d : Dir} (h : chk d = true) (h0 : 0 < d.size) (h1 : d.size ≤ 1073741824) : hasSize d.kind = true ∧ joinW ((words (dtx d)).map (sub (kibT d))) = lineOf d.kind (fsOf d (kibT d)) ∧ ldir (lineOf d.kind (fsOf d (kibT d))) = { d with size := d.size * 1024 } ∧ lerr (lineOf d.kind (fsOf d (kibT d))) = 0 := by
  obtain ⟨c0, c1, cz, c2, c3, c4, c5, c6⟩ := (chk_iff d).1 h
  have hs := c1.2 h0
  have hr := kib_read h hs h1
  have hl := (made_kib h h1).len
  refine ⟨hs, by rw [words_dtx h, sub_words h hs]; rfl, ?_⟩
  have hl5 : (lineOf d.kind (fsOf d (kibT d))).length ≤ 500 := Nat.le_trans hl (by decide)
  have hl6 : ¬ 500 < (lineOf d.kind (fsOf d (kibT d))).length := by omega
  unfold ldir lerr
  rw [if_neg hl6, if_neg hl6, show line? (lineOf d.kind (fsOf d (kibT d))) = _ from hr]
  exact ⟨rfl, rfl⟩
theorem txt_kib {d : Dir} (h0 : 0 < d.size) (h1 : d.size ≤ 1073741824) : txt d.size ++ nm 3 = kibT d := by
  obtain ⟨m, hm⟩ : ∃ m : Nat, d.size = (m : Int) := ⟨d.size.toNat, by omega⟩
  unfold kibT
  rw [hm, txt_in (show m ≤ 1099511627776 by omega)]
  rfl
/-- The words of a text that is a directive's: few, and short. -/
theorem words_few {d : Dir} (h : chk d = true) : (words (dtx d)).length ≤ 6 ∧ ∀ x ∈ words (dtx d), x.length ≤ 50 := by
  have hm := made_text h
  rw [words_dtx h]
  constructor
  · have h4 : (fsOf d (stxt d.size)).length ≤ 4 := by
      unfold fsOf
      cases hasName d.kind <;> cases hasSize d.kind <;> cases hasPool d.kind <;> cases d.opn <;> simp
    simp
    omega
  · intro x hx
    rcases List.mem_cons.1 hx with rfl | hx
    · decide
    rcases List.mem_cons.1 hx with rfl | hx
    · exact kw_len ((chk_iff d).1 h).1
    obtain ⟨f, hf, rfl⟩ := List.mem_map.1 hx
    exact (hm.wtx hf).2.2
theorem sub_len {kib w : Tx} (hk : kib.length ≤ 40) (hw : w.length ≤ 50) : (sub kib w).length ≤ 50 := by
  unfold sub
  split
  · simp [capE]; omega
  split
  · simp [sizE]; omega
  · exact hw
end Go.Proofs.YtekcjfdllclphaaGreatDoor.di
end
section
set_option linter.unusedVariables false
namespace Go.Proofs.YtekcjfdllclphaaGreatDoor.gn
open Go.RowKit
open Go.Proofs.YtekcjfdllclphaaGreatDoor.un
open Go.Proofs.YtekcjfdllclphaaGreatDoor.di

/-! ### boxes -/
/-- A box of these cells. -/
def BoxA (W : World) (B : Nat) (t : TypeId) (cs : Array Value) : Prop := W.heap[B]? = some (.cells cs t (0, 0))
theorem BoxA.lt {W : World} {B : Nat} {t : TypeId} {cs : Array Value} (h : BoxA W B t cs) : B < W.heap.size := (Array.getElem?_eq_some_iff.1 h).1
theorem BoxA.cell {W : World} {B : Nat} {t : TypeId} {cs : Array Value} (h : BoxA W B t cs) (j : Nat) (v : Value) (hj : cs[j]? = some v := by rfl) : W.cell? ⟨B, j, none⟩ = some v := by
  simp [World.cell?, show W.heap[B]? = _ from h, hj]
theorem BoxA.free {W : World} {B : Nat} {t : TypeId} {cs : Array Value} (h : BoxA W B t cs) (j : Nat) : W.frozen? ⟨B, j, none⟩ = false := by simp [World.frozen?, show W.heap[B]? = _ from h]
theorem BoxA.new (W : World) (t : TypeId) (cs : Array Value) : BoxA (W.alloc (.cells cs t)) W.heap.size t cs := heap_alloc_new W _
theorem BoxA.next {W W' : World} {B : Nat} {t : TypeId} {cs : Array Value} (h : BoxA W B t cs) (hb : Below W.heap.size W W') : BoxA W' B t cs := (hb.block B h.lt).trans h
theorem BoxA.but {R : Nat} {W W' : World} {B : Nat} {t : TypeId} {cs : Array Value} (h : BoxA W B t cs) (hb : But R W W') (hne : B ≠ R) : BoxA W' B t cs := (hb.block B h.lt (fun e => hne (Option.some.inj e))).trans h
theorem BoxA.set {W : World} {B : Nat} {t : TypeId} {cs : Array Value} (h : BoxA W B t cs) (j : Nat) (u : Value) : BoxA (W.setCell ⟨B, j, none⟩ u) B t (cs.setIfInBounds j u) := heap_setCell h u
theorem BoxA.drew {W : World} {B : Nat} {t : TypeId} {cs : Array Value} (h : BoxA W B t cs) : BoxA W.drew B t cs := h

/-! ### directives as values -/
def dcs (d : Dir) : Array Value := #[.int .u8 (d.kind : Nat), .string (str d.name), .string (str d.pool), .int .i64 d.size, .bool d.opn]
def dV (d : Dir) : Value := .agg (dcs d)
theorem eq_str (a b : Tx) : ((str a).toList == (str b).toList) = decide (a = b) := by
  rw [str_toList, str_toList, Bool.eq_iff_iff, beq_iff_eq, decide_eq_true_eq]
theorem eq_lit (a c : Tx) : ((str a).toList == c) = decide (a = c) := by
  rw [str_toList, Bool.eq_iff_iff, beq_iff_eq, decide_eq_true_eq]
theorem lit_yes {a c : Tx} (h : a = c) : ((str a).toList == c) = true ∧ (str a).toList = c := ⟨by rw [eq_lit]; exact decide_eq_true h, by rw [str_toList]; exact h⟩
theorem lit_no {a c : Tx} (h : ¬ a = c) : ((str a).toList == c) = false ∧ ¬ (str a).toList = c := ⟨by rw [eq_lit]; exact decide_eq_false h, by rw [str_toList]; exact h⟩
theorem dir_dec (d e : Dir) : decide (d = e) = (((d.kind : Nat) : Int) == ((e.kind : Nat) : Int) && (d.name == e.name && (d.pool == e.pool && (d.size == e.size && d.opn == e.opn)))) := by
  rw [Bool.eq_iff_iff]
  simp only [decide_eq_true_eq, Bool.and_eq_true, beq_iff_eq]
  obtain ⟨k, n, p, z, o⟩ := d
  obtain ⟨k', n', p', z', o'⟩ := e
  simp only [Dir.mk.injEq]
  constructor
  · rintro ⟨rfl, rfl, rfl, rfl, rfl⟩; simp
  · rintro ⟨h, rfl, rfl, rfl, rfl⟩
    exact ⟨by omega, rfl, rfl, rfl, rfl⟩
set_option maxRecDepth 100000 in
theorem dir_eqIn (d e : Dir) (W : World) : (Op.equalIn 10000 80 (dV d) (dV e)).run Tryz.prog W = .ok (decide (d = e)) W := by
  rw [dV, dV, dir_dec, run_equalIn_agg W 9999 80 (dcs d) (dcs e) (by kernel_rfl) (by kernel_rfl)]
  unfold Program.fieldsOf
  rw [Tryz.underlying80]
  simp [Op.eqFields, dcs, go_sem, Tryz.underlying5, Tryz.underlying9, Tryz.underlying2, Tryz.underlying4]
  simp only [str_toList]
  by_cases h1 : ((d.kind : Nat) : Int) = ((e.kind : Nat) : Int) <;> by_cases h2 : d.name = e.name <;> by_cases h3 : d.pool = e.pool <;> by_cases h4 : d.size = e.size <;> by_cases h5 : d.opn = e.opn <;> simp [h1, h2, h3, h4, h5]
theorem dir_eq (d e : Dir) (W : World) : (binOp .eql 80 (dV d) (dV e)).run Tryz.prog W = .ok (.bool (decide (d = e))) W := by
  rw [show dV d = .agg (dcs d) from rfl, show dV e = .agg (dcs e) from rfl, run_eql_struct, show (Op.equalIn 10000 80 (.agg (dcs d)) (.agg (dcs e))).run Tryz.prog W = _ from dir_eqIn d e W]
  rfl
theorem dir_ne (d e : Dir) (W : World) : (binOp .neq 80 (dV d) (dV e)).run Tryz.prog W = .ok (.bool (!decide (d = e))) W := by
  rw [show dV d = .agg (dcs d) from rfl, show dV e = .agg (dcs e) from rfl, run_neq_struct, show (Op.equalIn 10000 80 (.agg (dcs d)) (.agg (dcs e))).run Tryz.prog W = _ from dir_eqIn d e W]
  rfl

/-! ### names of any length -/
set_option maxRecDepth 100000 in
theorem name_long (l : List UInt8) (hl : 32 < l.length) (hm : l.length ≤ 9223372036854775807) (w : World) : Calls Tryz.prog 98 #[.string (str l)] w fun e w' => e = .returned (.bool (isName l)) ∧ Below w.heap.size w w' := by
  have hn : isName l = false := by
    unfold isName
    rw [show decide (l.length ≤ 32) = false from decide_eq_false (by omega)]
    simp
  rw [hn]
  have hz := str_size l
  have hz0 : 32 < (str l).size := by omega
  have hz1 : (str l).size ≤ 9223372036854775807 := by omega
  have hz2 : (((str l).size : Int) == 0) = false := by rw [beq_eq_false_iff_ne]; omega
  have hz3 : decide (32 < ((str l).size : Int)) = true := decide_eq_true (by omega)
  clear hn hl hm hz
  go_enter Tryz.func98, Tryz.ntmps98
  go_wp2
  go_ret
  exact ⟨rfl, Below.refl _ _⟩
theorem name_all (l : List UInt8) (hm : l.length ≤ 9223372036854775807) (w : World) : Calls Tryz.prog 98 #[.string (str l)] w fun e w' => e = .returned (.bool (isName l)) ∧ Below w.heap.size w w' := by
  by_cases h : 32 < l.length
  · exact name_long l h hm w
  · exact name_any l (by omega) w

/-! ### rows of fields -/
/-- The fields L stand in block a. -/
def Flds (w : World) (a : Nat) (L : List (Tx × Bool)) : Prop := a < w.heap.size ∧ ∀ (i : Nat) (f : Tx × Bool), L[i]? = some f → w.cell? ⟨a, i * 2, none⟩ = some (.string (str f.1)) ∧ w.cell? ⟨a, i * 2 + 1, none⟩ = some (.bool f.2)
theorem Flds.next {w w' : World} {a : Nat} {L : List (Tx × Bool)} (h : Flds w a L) (hb : Below w.heap.size w w') : Flds w' a L :=
  ⟨Nat.lt_of_lt_of_le h.1 hb.size, fun i f hf => ⟨(Below.cell hb h.1).trans (h.2 i f hf).1, (Below.cell hb h.1).trans (h.2 i f hf).2⟩⟩
theorem Flds.but {R : Nat} {w w' : World} {a : Nat} {L : List (Tx × Bool)} (h : Flds w a L) (hb : But R w w') (hne : a ≠ R) : Flds w' a L :=
  ⟨Nat.lt_of_lt_of_le h.1 hb.size, fun i f hf => ⟨hb.cell (h.2 i f hf).1 hne, hb.cell (h.2 i f hf).2 hne⟩⟩
def rowV (k a : Nat) : Value := .agg #[.int .u8 (k : Nat), .slice (some ⟨a, 0, none⟩) (fldL k).length (fldL k).length]

end Go.Proofs.YtekcjfdllclphaaGreatDoor.gn
end
