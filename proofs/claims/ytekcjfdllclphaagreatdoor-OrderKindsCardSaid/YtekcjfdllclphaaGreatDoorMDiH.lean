/- For reading: what the tables hold, the parts of a line, Cut and Split, what is expected. -/
import Derived.Test.YtekcjfdllclphaaGreatDoorMDiG
import Derived.Test.YtekcjfdllclphaaGreatDoorMSlR
import Derived.Deep.LoopGhost
import Derived.BigQuiet
section
set_option linter.unusedVariables false
namespace Go.Proofs.YtekcjfdllclphaaGreatDoor.gn
open Go.RowKit
open Go.Proofs.YtekcjfdllclphaaGreatDoor.un
open Go.Proofs.YtekcjfdllclphaaGreatDoor.di

/-! ### what the library's variables hold -/
structure LaidD (w : World) : Prop where
  u : LaidU w
  max : ∃ m : Int, w.cell? ⟨0, 0, none⟩ = some (.int .i64 m)
theorem LaidD.next {w w' : World} (h : LaidD w) (hb : Below w.heap.size w w') : LaidD w' := by
  refine ⟨h.u.next hb, ?_⟩
  obtain ⟨m, hm⟩ := h.max
  refine ⟨m, (Below.cell hb ?_).trans hm⟩
  by_cases hl : 0 < w.heap.size
  · exact hl
  · have : w.heap[0]? = none := Array.getElem?_eq_none (by omega)
    simp [World.cell?, this] at hm
/-- .. however what stands from B on is turned. -/
def LaidB (B : Nat) (w : World) : Prop := ∀ w', Below B w w' → LaidD w'
theorem LaidD.base {w : World} (h : LaidD w) : LaidB w.heap.size w := fun w' hb => h.next hb
theorem LaidB.next {B : Nat} {w w' : World} (h : LaidB B w) (hb : Below B w w') : LaidB B w' := fun w2 h2 => h w2 (hb.trans h2)
theorem LaidB.here {B : Nat} {w : World} (h : LaidB B w) : LaidD w := h w (Below.refl _ _)
theorem LaidB.up {B C : Nat} {w : World} (h : LaidB B w) (hc : B ≤ C) : LaidB C w := fun w' hb => h w' (hb.mono hc)
theorem But.low {R B : Nat} {w w' : World} (h : But R w w') (hR : B ≤ R) (hB : B ≤ w.heap.size) : Below B w w' := (Below.refl B w).grown h hB (fun j hj => by cases hj; exact hR)

/-! ### the parts of a line -/
def Prts (w : World) (p o : Nat) (ws : List Tx) : Prop := p < w.heap.size ∧ ∀ (i : Nat) (x : Tx), ws[i]? = some x → w.cell? ⟨p, o + i, none⟩ = some (.string (str x))
theorem Prts.next {w w' : World} {p o : Nat} {ws : List Tx} (h : Prts w p o ws) (hb : Below w.heap.size w w') : Prts w' p o ws :=
  ⟨Nat.lt_of_lt_of_le h.1 hb.size, fun i x hx => (Below.cell hb h.1).trans (h.2 i x hx)⟩
theorem Prts.but {R : Nat} {w w' : World} {p o : Nat} {ws : List Tx} (h : Prts w p o ws) (hb : But R w w') (hne : p ≠ R) : Prts w' p o ws :=
  ⟨Nat.lt_of_lt_of_le h.1 hb.size, fun i x hx => hb.cell (h.2 i x hx) hne⟩
theorem Prts.drop {w : World} {p o : Nat} {ws : List Tx} (h : Prts w p o ws) (n : Nat) : Prts w p (o + n) (ws.drop n) :=
  ⟨h.1, fun i x hx => by
    have := h.2 (n + i) x (by rw [List.getElem?_drop] at hx; exact hx)
    rw [Nat.add_assoc]
    exact this⟩

theorem cut_any (x : Tx) (hx : x.length ≤ 100000) (w : World) (hL : LaidD w) :
    Calls Tryz.prog 16 #[.string (str x), .string { data := #[61] }] w (Told (.tuple #[.string (str (fld x).1), .string (str (fld x).2), .bool (cut x).isSome]) w) := by
  obtain ⟨m, hm⟩ := hL.max
  refine (Any.strings_Cut layCut (str x) (str [61]) m w (by rw [str_size]; omega) hm).mono ?_
  rintro e w' ⟨he, n, hw⟩
  have e1 : (str x).data.toList = x := by simp [str]
  have e2 : (str [61]).data.toList = [61] := rfl
  rw [e1, e2, cut_lib] at he
  exact ⟨he, by rw [hw]; exact Joins.below_draws _ _ _⟩
theorem split_any_d (l : Tx) (hl : l.length ≤ 100000) (w : World) (hL : LaidD w) :
    Calls Tryz.prog 107 #[.string (str l), .string { data := #[32] }] w fun e w' => e = .returned (.slice (some ⟨w.heap.size, 0, none⟩) (words l).length (words l).length) ∧ Prts w' w.heap.size 0 (words l) ∧ Below w.heap.size w w' := by
  obtain ⟨m, hm⟩ := hL.max
  refine (Any.strings_Split laySplit (by kernel_rfl) (str l) (str [32]) m w (by rw [str_size]; omega) hm (by decide)).mono ?_
  rintro e w' ⟨he, hw⟩
  rw [countB_words] at he
  rw [splitB_words] at hw
  refine ⟨he, ⟨by rw [hw]; simp, fun i x hx => ?_⟩, by rw [hw]; exact (Below.refl _ _).alloc (Nat.le_refl _) _⟩
  rw [hw, World.cell?_alloc_mark]
  simp [hx]

/-! ### the fields that are expected -/
def fV (f : Tx × Bool) : Value := .agg #[.string (str f.1), .bool f.2]
/-- What the map holds behind these fields. -/
def fget (F : List (Tx × Bool)) (j : Tx) : Option Value := F.foldl (fun acc f => if j = f.1 then some (fV f) else acc) none
theorem fget_snoc (F : List (Tx × Bool)) (f : Tx × Bool) (j : Tx) : fget (F ++ [f]) j = if j = f.1 then some (fV f) else fget F j := by
  unfold fget
  rw [List.foldl_append]
  rfl
theorem fget_all {k : Nat} (hk : 1 ≤ k ∧ k ≤ 6) (j : Tx) : fget (fldL k) j = if has k j = true then some (fV (j, decide (j = accK))) else none := by
  have c1 : (capK = accK) = False := by simp; decide
  have c2 : (sizeK = accK) = False := by simp; decide
  have c3 : (nameK = accK) = False := by simp; decide
  have c4 : (poolK = accK) = False := by simp; decide
  by_cases h1 : j = capK
  · subst h1
    rcases six hk with rfl | rfl | rfl | rfl | rfl | rfl <;> rfl
  by_cases h2 : j = sizeK
  · subst h2
    rcases six hk with rfl | rfl | rfl | rfl | rfl | rfl <;> rfl
  by_cases h3 : j = nameK
  · subst h3
    rcases six hk with rfl | rfl | rfl | rfl | rfl | rfl <;> rfl
  by_cases h4 : j = poolK
  · subst h4
    rcases six hk with rfl | rfl | rfl | rfl | rfl | rfl <;> rfl
  by_cases h5 : j = accK
  · subst h5
    rcases six hk with rfl | rfl | rfl | rfl | rfl | rfl <;> rfl
  rcases six hk with rfl | rfl | rfl | rfl | rfl | rfl <;> simp [fget, has, fldL, h1, h2, h3, h4, h5]
theorem fld_opt {k : Nat} {f : Tx × Bool} (h : f ∈ fldL k) : f.2 = decide (f.1 = accK) ∧ has k f.1 = true := by
  refine ⟨?_, by unfold has; exact List.contains_iff_mem.2 (List.mem_map.2 ⟨f, h, rfl⟩)⟩
  unfold fldL at h
  split at h <;> simp at h
  · rcases h with rfl | rfl <;> rfl
  · subst h; rfl
  · subst h; rfl
  · rcases h with rfl | rfl | rfl | rfl <;> rfl
  · subst h; rfl
  · subst h; rfl
theorem has_mem {k : Nat} {j : Tx} (h : has k j = true) : (j, decide (j = accK)) ∈ fldL k := by
  unfold has at h
  obtain ⟨f, hf, rfl⟩ := List.mem_map.1 (List.contains_iff_mem.1 h)
  rw [← (fld_opt hf).1]
  exact hf
/-- What is still expected. -/
structure Left (w : World) (m k : Nat) (fs : List Fl) (L : List (Tx × Value)) : Prop where
  m : MapV w m L
  get : ∀ j, fi.get j L = if has k j = true ∧ j ∉ keys fs then some (fV (j, decide (j = accK))) else none
theorem Left.next {w w' : World} {m k : Nat} {fs : List Fl} {L : List (Tx × Value)} (h : Left w m k fs L) (hb : Below w.heap.size w w') : Left w' m k fs L := ⟨h.m.next hb, h.get⟩
theorem Left.but {R : Nat} {w w' : World} {m k : Nat} {fs : List Fl} {L : List (Tx × Value)} (h : Left w m k fs L) (hb : But R w w') (hne : m ≠ R) : Left w' m k fs L := ⟨h.m.but hb hne, h.get⟩
theorem Left.del {w w' : World} {m k : Nat} {fs : List Fl} {L : List (Tx × Value)} (h : Left w m k fs L) {f : Fl} (hd : MapV w' m (fi.del f.1 L)) : Left w' m k (fs ++ [f]) (fi.del f.1 L) := by
  refine ⟨hd, fun j => ?_⟩
  rw [get_del, h.get, keys_snoc]
  by_cases hj : j = f.1
  · rw [if_pos hj, if_neg]
    rintro ⟨_, hn⟩
    exact hn (by rw [hj]; simp)
  · rw [if_neg hj]
    have : j ∉ keys fs ++ [f.1] ↔ j ∉ keys fs := by simp [hj]
    simp only [this]
theorem zeroF (W : World) : (zeroValue 133).run Tryz.prog W = .ok (.agg #[.string { data := #[] }, .bool false]) W := by kernel_rfl

/-- A closure out of the map, called. -/
theorem clo_call {k : Nat} {key : Tx} (h : has k key = true) (c : Nat) : ∃ g, cloF c key = some (clo g c) ∧ (∀ (x y : Value) (W : World), (callFunc g #[x, y]).run Tryz.prog W = .ok (.enter g #[x, y]) W) ∧
    ∀ (v : Tx) (hv : v.length ≤ 140737488355328) (bd : Nat) (d : Dir) (W : World), PtrB W c bd → DirB W bd d → LaidU W → Calls Tryz.prog g #[.string (str v), .pointer (some ⟨c, 0, none⟩)] W (StoT bd key v d W) := by
  rcases key_five h with rfl | rfl | rfl | rfl | rfl
  · exact ⟨_, cloF_name c, fun x y W => by kernel_rfl, fun v hv bd d W hp hd hL => sto_name_any c bd d v (by omega) W hp hd⟩
  · exact ⟨_, cloF_pool c, fun x y W => by kernel_rfl, fun v hv bd d W hp hd hL => sto_pool_any c bd d v (by omega) W hp hd⟩
  · exact ⟨_, cloF_cap c, fun x y W => by kernel_rfl, fun v hv bd d W hp hd hL => sto_size_any c bd d v hv W hp hd hL⟩
  · refine ⟨_, cloF_size c, fun x y W => by kernel_rfl, fun v hv bd d W hp hd hL => (sto_size_any c bd d v hv W hp hd hL).mono ?_⟩
    rintro e w' ⟨h1, h2, h3⟩
    exact ⟨by rw [okv_siz, ← okv_cap]; exact h1, h2, by rw [sto_size, ← sto_cap]; exact h3⟩
  · exact ⟨_, cloF_acc c, fun x y W => by kernel_rfl, fun v hv bd d W hp hd hL => sto_acc_any c bd d v W hp hd⟩
theorem fld_len (x : Tx) : (fld x).1.length ≤ x.length ∧ (fld x).2.length ≤ x.length := by
  unfold fld
  cases hc : cut x with
  | none => simp
  | some f =>
    obtain ⟨e, _⟩ := cut_some x f.1 f.2 hc
    simp only [Option.getD_some]
    rw [e]
    simp
    omega
end Go.Proofs.YtekcjfdllclphaaGreatDoor.gn
end
section
set_option linter.unusedVariables false
namespace Go.Proofs.YtekcjfdllclphaaGreatDoor.gn
open Go.RowKit
open Go.Proofs.YtekcjfdllclphaaGreatDoor.un
open Go.Proofs.YtekcjfdllclphaaGreatDoor.di

theorem has_isSome (L : List (Tx × Value)) (j : Tx) : Maps.has (datV L) (.string j) = (fi.get j L).isSome := datV_has j L
theorem same_str (j k : Tx) : (Lit.string j).sameKey (.string k) = decide (j = k) := by
  show (j == k) = _
  rw [Bool.eq_iff_iff, beq_iff_eq, decide_eq_true_eq]

theorem kw_inj {k q : Nat} (hk : 1 ≤ k ∧ k ≤ 6) (hq : 1 ≤ q ∧ q ≤ 6) (h : kw k = kw q) : k = q := by
  have h1 := kind_kw hk
  rw [h, kind_kw hq] at h1
  exact (Option.some.inj h1).symm
/-- What find tells of a kind that there is. -/
def FindT (k : Nat) (w : World) (e : Ending) (w' : World) : Prop :=
  ∃ a, e = .returned (.tuple #[.string (str (kw k)), .slice (some ⟨a, 0, none⟩) (fldL k).length (fldL k).length, .bool true]) ∧ Flds w' a (fldL k) ∧ w.heap.size ≤ a ∧ Below w.heap.size w w'

set_option maxRecDepth 100000 in
set_option maxHeartbeats 3200000 in
theorem kfind_yes (k : Nat) (hk : 1 ≤ k ∧ k ≤ 6) (w : World) : Calls Tryz.prog 95 #[.int .u8 (k : Nat)] w (FindT k w) := by
  have HK := Lib.hid hk
  have hk6 : k ≤ 6 := hk.2
  clear hk
  go_enter Tryz.func95, Tryz.ntmps95
  go_wp2_with (first
    | (go_at_call 124; refine (rows_any _).mono ?_; rintro e w1 ⟨b, L, a, rfl, hr, hb⟩; have HR := Lib.hid hr; have HB := Lib.hid hb; clear hr hb)
    | (at_range; refine wpList_range_map _ rfl _ 158 _ rfl Tryz.underlying158 b L rfl HR.out.m ?_; intro w2 hrg hb2 hs2; have HRG := Lib.hid hrg; have HB2 := Lib.hid hb2; clear hrg hb2))
  have HB3 := Lib.hid (HB.out.trans (HB2.out.mono HB.out.size))
  have HL := Lib.hid (show Maps.has (datV L) (.string (kw k)) = true by rw [has_isSome, HR.out.get, kind_kw HK.out]; rfl)
  go_frame
  go_loopw [9] (fun _ wr => ∃ left cnt, Aside (RngV wr b w1.heap.size L left cnt) ∧ Aside (left (.string (kw k)) = true) ∧ Aside (Below w.heap.size w wr) ∧ Aside (Below w1.heap.size w1 wr)) (fun _ wr => wr.rangeLeft b w1.heap.size)
  case atStart => exact ⟨_, _, HRG.out, HL.out, HB3.out, HB2.out⟩
  case round =>
    obtain ⟨left, cnt, hrg, hlf, hbw, hbw1⟩ := hrel
    go_wp2_with (at_next; refine wpList_next_map _ rfl _ rfl b w1.heap.size L left cnt rfl hrg ?_ ?_)
    · intro hc0 hl0
      have : left (.string (kw k)) = true := hlf
      rw [hl0] at this
      cases this
    · intro j v w4 cnt4 hg hlj hrg4 hlt hbt hs4 hen
      have hgj := HR.out.get j
      rw [hg] at hgj
      obtain ⟨q, hq, hv⟩ := Option.map_eq_some_iff.1 hgj.symm
      subst hv
      obtain ⟨hj, hq6⟩ := kind_some hq
      subst hj
      have HF := Lib.hid (HR.out.flds q hq6)
      have HQ := Lib.hid hq6
      have HG4 := Lib.hid hrg4
      have HLT := Lib.hid hlt
      have HBT := Lib.hid hbt
      have hq66 : q ≤ 6 := hq6.2
      have HB4 := Lib.hid (show Below w.heap.size w w4 from (show Below w.heap.size w wr from hbw).grown hbt (show Below w.heap.size w wr from hbw).size (fun i hi => by cases hi; exact HB.out.size))
      have HB41 := Lib.hid (show Below w1.heap.size w1 w4 from (show Below w1.heap.size w1 wr from hbw1).grown hbt (show Below w1.heap.size w1 wr from hbw1).size (fun i hi => by cases hi; exact Nat.le_refl _))
      have HRG0 := Lib.hid (show RngV wr b w1.heap.size L left cnt from hrg)
      have HLF := Lib.hid (show left (.string (kw k)) = true from hlf)
      unfold rowV at hen
      clear hg hgj hq hrg4 hlt hbt hbw hbw1 hrg hlf hlj hq6
      by_cases hqk : q = k
      · subst hqk
        go_wp2_with (go_quiet (fail))
        go_ret3
        refine ⟨a q, rfl, ?_, HF.out.2, ?_⟩
        · exact HF.out.1.next ((HB41.out.alloc HB41.out.size _).trans (Joins.below_draws _ _ _))
        · exact (HB4.out.alloc HB4.out.size _).trans (Joins.below_draws _ _ _)
      · have hne : (((q : Nat) : Int) == ((k : Nat) : Int)) = false := by rw [beq_eq_false_iff_ne]; omega
        have HNE := Lib.hid hqk
        generalize (fldL q).length = n at *
        clear hqk
        go_wp2
        go_roundw
        case rel =>
          have hy : Below w4.heap.size w4 (w4.alloc (.cells #[.int .u8 (q : Nat), .slice (some ⟨a q, 0, none⟩) n n] 161)) := (Below.refl _ _).alloc (Nat.le_refl _) _
          refine ⟨_, cnt4, HG4.out.next hy, ?_, HB4.out.trans (hy.mono HB4.out.size), HB41.out.trans (hy.mono HB41.out.size)⟩
          show (left (.string (kw k)) && !(Lit.string (kw k)).sameKey (.string (kw q))) = true
          rw [HLF.out, same_str, decide_eq_false (fun e => HNE.out (kw_inj HK.out HQ.out e).symm)]
          rfl
        case measure =>
          have hy : Below w4.heap.size w4 (w4.alloc (.cells #[.int .u8 (q : Nat), .slice (some ⟨a q, 0, none⟩) n n] 161)) := (Below.refl _ _).alloc (Nat.le_refl _) _
          rw [(HG4.out.next hy).left_eq, HRG0.out.left_eq]
          exact HLT.out
set_option maxRecDepth 100000 in
set_option maxHeartbeats 3200000 in
theorem kfind_no (k : Nat) (hk : ¬ (1 ≤ k ∧ k ≤ 6)) (w : World) : Calls Tryz.prog 95 #[.int .u8 (k : Nat)] w (Told (.tuple #[.string (str []), .slice none 0 0, .bool false]) w) := by
  have HK := Lib.hid hk
  clear hk
  go_enter Tryz.func95, Tryz.ntmps95
  go_wp2_with (first
    | (go_at_call 124; refine (rows_any _).mono ?_; rintro e w1 ⟨b, L, a, rfl, hr, hb⟩; have HR := Lib.hid hr; have HB := Lib.hid hb; clear hr hb)
    | (at_range; refine wpList_range_map _ rfl _ 158 _ rfl Tryz.underlying158 b L rfl HR.out.m ?_; intro w2 hrg hb2 hs2; have HRG := Lib.hid hrg; have HB2 := Lib.hid hb2; clear hrg hb2))
  have HB3 := Lib.hid (HB.out.trans (HB2.out.mono HB.out.size))
  go_frame
  go_loopw [9] (fun _ wr => ∃ left cnt, Aside (RngV wr b w1.heap.size L left cnt) ∧ Aside (Below w.heap.size w wr) ∧ Aside (Below w1.heap.size w1 wr)) (fun _ wr => wr.rangeLeft b w1.heap.size)
  case atStart => exact ⟨_, _, HRG.out, HB3.out, HB2.out⟩
  case round =>
    obtain ⟨left, cnt, hrg, hbw, hbw1⟩ := hrel
    go_wp2_with (at_next; refine wpList_next_map _ rfl _ rfl b w1.heap.size L left cnt rfl hrg ?_ ?_)
    · intro hc0 hl0
      have HBW := Lib.hid (show Below w.heap.size w wr from hbw)
      clear hbw hbw1 hrg
      go_wp2
      go_ret3
      exact ⟨rfl, HBW.out⟩
    · intro j v w4 cnt4 hg hlj hrg4 hlt hbt hs4 hen
      have hgj := HR.out.get j
      rw [hg] at hgj
      obtain ⟨q, hq, hv⟩ := Option.map_eq_some_iff.1 hgj.symm
      subst hv
      obtain ⟨hj, hq6⟩ := kind_some hq
      subst hj
      have HF := Lib.hid (HR.out.flds q hq6)
      have HQ := Lib.hid hq6
      have HG4 := Lib.hid hrg4
      have HLT := Lib.hid hlt
      have HBT := Lib.hid hbt
      have hq66 : q ≤ 6 := hq6.2
      have HB4 := Lib.hid (show Below w.heap.size w w4 from (show Below w.heap.size w wr from hbw).grown hbt (show Below w.heap.size w wr from hbw).size (fun i hi => by cases hi; exact HB.out.size))
      have HB41 := Lib.hid (show Below w1.heap.size w1 w4 from (show Below w1.heap.size w1 wr from hbw1).grown hbt (show Below w1.heap.size w1 wr from hbw1).size (fun i hi => by cases hi; exact Nat.le_refl _))
      have HRG0 := Lib.hid (show RngV wr b w1.heap.size L left cnt from hrg)
      unfold rowV at hen
      clear hg hgj hq hrg4 hlt hbt hbw hbw1 hrg hlj hq6
      · have hne : (((q : Nat) : Int) == ((k : Nat) : Int)) = false := by
          have := HQ.out; have := HK.out
          rw [beq_eq_false_iff_ne]; omega
        generalize (fldL q).length = n at *
        go_wp2
        go_roundw
        case rel =>
          have hy : Below w4.heap.size w4 (w4.alloc (.cells #[.int .u8 (q : Nat), .slice (some ⟨a q, 0, none⟩) n n] 161)) := (Below.refl _ _).alloc (Nat.le_refl _) _
          refine ⟨_, cnt4, HG4.out.next hy, HB4.out.trans (hy.mono HB4.out.size), HB41.out.trans (hy.mono HB41.out.size)⟩
        case measure =>
          have hy : Below w4.heap.size w4 (w4.alloc (.cells #[.int .u8 (q : Nat), .slice (some ⟨a q, 0, none⟩) n n] 161)) := (Below.refl _ _).alloc (Nat.le_refl _) _
          rw [(HG4.out.next hy).left_eq, HRG0.out.left_eq]
          exact HLT.out
end Go.Proofs.YtekcjfdllclphaaGreatDoor.gn
end
