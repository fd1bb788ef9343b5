/- Contracts of storeName and of the closures that store a field. -/
import Derived.Test.YtpmghgfgbkncoaaGreatDoorMDiA
import Derived.Test.YtpmghgfgbkncoaaGreatDoorMGenClone
section
set_option linter.unusedVariables false
namespace Go.Proofs.YtpmghgfgbkncoaaGreatDoor.gn
open Go.RowKit
open Go.Proofs.YtpmghgfgbkncoaaGreatDoor.un
open Go.Proofs.YtpmghgfgbkncoaaGreatDoor.di

/-- A directive in a box. -/
def DirB (w : World) (b : Nat) (d : Dir) : Prop := BoxA w b 51 (dcs d)
/-- A box with a pointer to a directive's. -/
def PtrB (w : World) (c b : Nat) : Prop := BoxA w c 116 #[.pointer (some ⟨b, 0, none⟩)]
theorem DirB.cells {w : World} {b : Nat} {d : Dir} (h : DirB w b d) : w.cell? ⟨b, 0, none⟩ = some (.int .u8 (d.kind : Nat)) ∧ w.cell? ⟨b, 1, none⟩ = some (.string (str d.name)) ∧ w.cell? ⟨b, 2, none⟩ = some (.string (str d.pool)) ∧ w.cell? ⟨b, 3, none⟩ = some (.int .i64 d.size) ∧ w.cell? ⟨b, 4, none⟩ = some (.bool d.opn) :=
  ⟨BoxA.cell h 0 _ rfl, BoxA.cell h 1 _ rfl, BoxA.cell h 2 _ rfl, BoxA.cell h 3 _ rfl, BoxA.cell h 4 _ rfl⟩
theorem DirB.next {w w' : World} {b : Nat} {d : Dir} (h : DirB w b d) (hb : Below w.heap.size w w') : DirB w' b d := BoxA.next h hb
theorem DirB.lt {w : World} {b : Nat} {d : Dir} (h : DirB w b d) : b < w.heap.size := BoxA.lt h
theorem DirB.name {w : World} {b : Nat} {d : Dir} (h : DirB w b d) (v : Tx) : DirB (w.setCell ⟨b, 1, none⟩ (.string (str v))) b { d with name := v } := BoxA.set h 1 _
theorem DirB.pool {w : World} {b : Nat} {d : Dir} (h : DirB w b d) (v : Tx) : DirB (w.setCell ⟨b, 2, none⟩ (.string (str v))) b { d with pool := v } := BoxA.set h 2 _
theorem DirB.size {w : World} {b : Nat} {d : Dir} (h : DirB w b d) (n : Int) : DirB (w.setCell ⟨b, 3, none⟩ (.int .i64 n)) b { d with size := n } := BoxA.set h 3 _
theorem DirB.opn {w : World} {b : Nat} {d : Dir} (h : DirB w b d) (o : Bool) : DirB (w.setCell ⟨b, 4, none⟩ (.bool o)) b { d with opn := o } := BoxA.set h 4 _
theorem But.of_below {R : Nat} {w w' : World} (h : Below w.heap.size w w') : But R w w' := ⟨h.os, h.tape, h.output, h.size, fun i hi _ => h.block i hi⟩

/-- A store into a box with a string: the new string. -/
def NameT (bd j : Nat) (v : Tx) (w : World) (e : Ending) (w' : World) : Prop :=
  e = .returned (.bool (isName v)) ∧ ∃ w1, Below w.heap.size w w1 ∧ w' = if isName v = true then w1.setCell ⟨bd, j, none⟩ (.string (str v)) else w1
set_option maxRecDepth 100000 in
set_option maxHeartbeats 1600000 in
theorem storeName_any (bd j : Nat) (old : Tx) (v : Tx) (hv : v.length ≤ 9223372036854775807) (w : World) (hc : w.cell? ⟨bd, j, none⟩ = some (.string (str old))) (hf : w.frozen? ⟨bd, j, none⟩ = false) (hlt : bd < w.heap.size) :
    Calls Tryz.prog 95 #[.pointer (some ⟨bd, j, none⟩), .string (str v)] w (NameT bd j v w) := by
  cases hn : isName v with
  | false =>
    have HN := Lib.hid hn
    have HV := Lib.hid hv
    clear hc hf hlt hn hv
    go_enter Tryz.func95, Tryz.ntmps95
    go_wp2_with (go_at_call 59; refine (name_all v HV.out _).mono ?_; rintro e w1 ⟨rfl, hb⟩; rw [HN.out]; have HB := Lib.hid hb; clear hb)
    go_ret
    exact ⟨by rw [HN.out]; rfl, w1, HB.out, by rw [HN.out]; rfl⟩
  | true =>
    have HN := Lib.hid hn
    have HV := Lib.hid hv
    have HL := Lib.hid (show (str v).size ≤ 281474976710656 by rw [str_size]; have := name_len hn; omega)
    have HC := Lib.hid fun (W : World) (hb : Below w.heap.size w W) => (Below.cell hb hlt).trans hc
    have HF := Lib.hid fun (W : World) (hb : Below w.heap.size w W) => (show W.frozen? ⟨bd, j, none⟩ = false by rw [← hf]; unfold World.frozen?; rw [hb.block bd hlt])
    clear hc hf hn hv
    go_enter Tryz.func95, Tryz.ntmps95
    go_wp2_with (first
      | (go_at_call 59; refine (name_all v HV.out _).mono ?_; rintro e w1 ⟨rfl, hb⟩; rw [HN.out]; have HB := Lib.hid hb; clear hb)
      | (go_at_call 106; refine (clone_any (str v) _ HL.out).mono ?_; rintro e w2 ⟨rfl, hb2⟩; have HB2 := Lib.hid (HB.out.trans (hb2.mono HB.out.size)); have hc2 := HC.out _ HB2.out; have hf2 := HF.out _ HB2.out; clear hb2))
    go_ret
    exact ⟨by rw [HN.out]; rfl, w2, HB2.out, by rw [HN.out]; rfl⟩
end Go.Proofs.YtpmghgfgbkncoaaGreatDoor.gn
end
section
set_option linter.unusedVariables false
namespace Go.Proofs.YtpmghgfgbkncoaaGreatDoor.gn
open Go.RowKit
open Go.Proofs.YtpmghgfgbkncoaaGreatDoor.un
open Go.Proofs.YtpmghgfgbkncoaaGreatDoor.di

theorem sto_name (v : Tx) (d : Dir) : sto nameK v d = if isName v = true then { d with name := v } else d := by unfold sto; rw [if_pos rfl]
theorem sto_pool (v : Tx) (d : Dir) : sto poolK v d = if isName v = true then { d with pool := v } else d := by unfold sto; rw [if_neg (by decide), if_pos rfl]
theorem sto_acc (v : Tx) (d : Dir) : sto accK v d = { d with opn := v == pubV } := by unfold sto; rw [if_neg (by decide), if_neg (by decide), if_pos rfl]
theorem sto_cap (v : Tx) (d : Dir) : sto capK v d = { d with size := (((size? v).getD 0 : Nat) : Int) } := by unfold sto; rw [if_neg (by decide), if_neg (by decide), if_neg (by decide)]
theorem sto_size (v : Tx) (d : Dir) : sto sizeK v d = { d with size := (((size? v).getD 0 : Nat) : Int) } := by unfold sto; rw [if_neg (by decide), if_neg (by decide), if_neg (by decide)]
theorem okv_cap (v : Tx) : okv capK v = decide (0 < (size? v).getD 0) := by unfold okv; rw [if_pos (.inl rfl)]
theorem okv_siz (v : Tx) : okv sizeK v = decide (0 < (size? v).getD 0) := by unfold okv; rw [if_pos (.inr rfl)]

/-- A closure that stores a field. -/
def StoT (bd : Nat) (key v : Tx) (d : Dir) (w : World) (e : Ending) (w' : World) : Prop :=
  e = .returned (.bool (okv key v)) ∧ But bd w w' ∧ DirB w' bd (sto key v d)

set_option maxRecDepth 100000 in
set_option maxHeartbeats 1600000 in
theorem sto_name_any (c bd : Nat) (d : Dir) (v : Tx) (hv : v.length ≤ 9223372036854775807) (w : World) (hp : PtrB w c bd) (hd : DirB w bd d) :
    Calls Tryz.prog 94 #[.string (str v), .pointer (some ⟨c, 0, none⟩)] w (StoT bd nameK v d w) := by
  have hc : w.cell? ⟨c, 0, none⟩ = some (.pointer (some ⟨bd, 0, none⟩)) := BoxA.cell hp 0 _ rfl
  have HD := Lib.hid hd
  have HV := Lib.hid hv
  clear hp hd hv
  go_enter Tryz.func94, Tryz.ntmps94
  go_wp2_with (go_at_call 95; refine (storeName_any bd 1 d.name v HV.out _ HD.out.cells.2.1 (BoxA.free HD.out 1) HD.out.lt).mono ?_; rintro e w1 ⟨rfl, w2, hb, hw⟩; have HB := Lib.hid hb; have HW := Lib.hid hw; clear hb hw)
  go_ret
  refine ⟨by rw [okv_name]; rfl, ?_, ?_⟩
  · rw [HW.out]
    split
    · exact (But.of_below HB.out).setCell _ _
    · exact But.of_below HB.out
  · rw [HW.out, sto_name]
    split
    · exact (HD.out.next HB.out).name v
    · exact HD.out.next HB.out
set_option maxRecDepth 100000 in
set_option maxHeartbeats 1600000 in
theorem sto_pool_any (c bd : Nat) (d : Dir) (v : Tx) (hv : v.length ≤ 9223372036854775807) (w : World) (hp : PtrB w c bd) (hd : DirB w bd d) :
    Calls Tryz.prog 96 #[.string (str v), .pointer (some ⟨c, 0, none⟩)] w (StoT bd poolK v d w) := by
  have hc : w.cell? ⟨c, 0, none⟩ = some (.pointer (some ⟨bd, 0, none⟩)) := BoxA.cell hp 0 _ rfl
  have HD := Lib.hid hd
  have HV := Lib.hid hv
  clear hp hd hv
  go_enter Tryz.func96, Tryz.ntmps96
  go_wp2_with (go_at_call 95; refine (storeName_any bd 2 d.pool v HV.out _ HD.out.cells.2.2.1 (BoxA.free HD.out 2) HD.out.lt).mono ?_; rintro e w1 ⟨rfl, w2, hb, hw⟩; have HB := Lib.hid hb; have HW := Lib.hid hw; clear hb hw)
  go_ret
  refine ⟨by rw [okv_pool]; rfl, ?_, ?_⟩
  · rw [HW.out]
    split
    · exact (But.of_below HB.out).setCell _ _
    · exact But.of_below HB.out
  · rw [HW.out, sto_pool]
    split
    · exact (HD.out.next HB.out).pool v
    · exact HD.out.next HB.out

set_option maxRecDepth 100000 in
set_option maxHeartbeats 1600000 in
theorem sto_size_any (c bd : Nat) (d : Dir) (v : Tx) (hv : v.length ≤ 140737488355328) (w : World) (hp : PtrB w c bd) (hd : DirB w bd d) (hL : LaidU w) :
    Calls Tryz.prog 92 #[.string (str v), .pointer (some ⟨c, 0, none⟩)] w (StoT bd capK v d w) := by
  have HP := Lib.hid hp
  have HD := Lib.hid hd
  have HV := Lib.hid hv
  have HL := Lib.hid hL
  obtain ⟨o, ho⟩ : ∃ o, size? v = o := ⟨_, rfl⟩
  have HO := Lib.hid ho
  clear hp hd hv hL ho
  cases o with
  | none =>
    go_enter Tryz.func92, Tryz.ntmps92
    go_wp2_with (go_at_call 93; refine (size_any v HV.out _ HL.out).mono ?_; rintro e w1 ⟨rfl, hb⟩; rw [HO.out, qv_none, qe_none]; have HB := Lib.hid hb; have hc : w1.cell? ⟨c, 0, none⟩ = some (.pointer (some ⟨bd, 0, none⟩)) := BoxA.cell (HP.out.next hb) 0 _ rfl; have hs := (HD.out.next hb).cells.2.2.2.1; have hf := BoxA.free (HD.out.next hb) 3; clear hb)
    go_ret
    refine ⟨by rw [okv_cap, HO.out]; rfl, (But.of_below HB.out).setCell _ _, ?_⟩
    rw [sto_cap, HO.out]
    exact (HD.out.next HB.out).size _
  | some n =>
    by_cases hn : n = 0
    · subst hn
      go_enter Tryz.func92, Tryz.ntmps92
      go_wp2_with (go_at_call 93; refine (size_any v HV.out _ HL.out).mono ?_; rintro e w1 ⟨rfl, hb⟩; rw [HO.out, qv_some, qe_some]; have HB := Lib.hid hb; have hc : w1.cell? ⟨c, 0, none⟩ = some (.pointer (some ⟨bd, 0, none⟩)) := BoxA.cell (HP.out.next hb) 0 _ rfl; have hs := (HD.out.next hb).cells.2.2.2.1; have hf := BoxA.free (HD.out.next hb) 3; clear hb)
      go_ret
      refine ⟨by rw [okv_cap, HO.out]; rfl, (But.of_below HB.out).setCell _ _, ?_⟩
      rw [sto_cap, HO.out]
      exact (HD.out.next HB.out).size _
    · have hn0 : decide (0 < (n : Int)) = true := decide_eq_true (by omega)
      have hn1 : 0 < n := by omega
      go_enter Tryz.func92, Tryz.ntmps92
      go_wp2_with (go_at_call 93; refine (size_any v HV.out _ HL.out).mono ?_; rintro e w1 ⟨rfl, hb⟩; rw [HO.out, qv_some, qe_some]; have HB := Lib.hid hb; have hc : w1.cell? ⟨c, 0, none⟩ = some (.pointer (some ⟨bd, 0, none⟩)) := BoxA.cell (HP.out.next hb) 0 _ rfl; have hs := (HD.out.next hb).cells.2.2.2.1; have hf := BoxA.free (HD.out.next hb) 3; clear hb)
      go_ret
      refine ⟨by rw [okv_cap, HO.out]; simp [hn1], (But.of_below HB.out).setCell _ _, ?_⟩
      rw [sto_cap, HO.out]
      exact (HD.out.next HB.out).size _

set_option maxRecDepth 100000 in
set_option maxHeartbeats 1600000 in
theorem sto_acc_any (c bd : Nat) (d : Dir) (v : Tx) (w : World) (hp : PtrB w c bd) (hd : DirB w bd d) :
    Calls Tryz.prog 97 #[.string (str v), .pointer (some ⟨c, 0, none⟩)] w (StoT bd accK v d w) := by
  have hc : w.cell? ⟨c, 0, none⟩ = some (.pointer (some ⟨bd, 0, none⟩)) := BoxA.cell hp 0 _ rfl
  have hs := hd.cells.2.2.2.2
  have hf := BoxA.free hd 4
  have HD := Lib.hid hd
  clear hp hd
  by_cases h1 : v = pubV
  · obtain ⟨q1, q2⟩ := lit_yes h1
    have HE := Lib.hid h1
    unfold pubV at q1 q2
    clear h1
    go_enter Tryz.func97, Tryz.ntmps97
    go_wp2
    go_ret
    refine ⟨by rw [okv_acc, HE.out]; rfl, (But.refl _ _).setCell _ _, ?_⟩
    rw [sto_acc, HE.out]
    exact HD.out.opn true
  · obtain ⟨q1, q2⟩ := lit_no h1
    have HE := Lib.hid (show (v == pubV) = false by rw [beq_eq_false_iff_ne]; exact h1)
    unfold pubV at q1 q2
    clear h1
    by_cases h2 : v = priV
    · obtain ⟨q3, q4⟩ := lit_yes h2
      have HF := Lib.hid (show (v == priV) = true by rw [h2]; decide)
      unfold priV at q3 q4
      clear h2
      go_enter Tryz.func97, Tryz.ntmps97
      go_wp2
      go_ret
      refine ⟨by rw [okv_acc, HE.out, HF.out]; rfl, (But.refl _ _).setCell _ _, ?_⟩
      rw [sto_acc, HE.out]
      exact HD.out.opn false
    · obtain ⟨q3, q4⟩ := lit_no h2
      have HF := Lib.hid (show (v == priV) = false by rw [beq_eq_false_iff_ne]; exact h2)
      unfold priV at q3 q4
      clear h2
      go_enter Tryz.func97, Tryz.ntmps97
      go_wp2
      go_ret
      refine ⟨by rw [okv_acc, HE.out, HF.out]; rfl, (But.refl _ _).setCell _ _, ?_⟩
      rw [sto_acc, HE.out]
      exact HD.out.opn false
end Go.Proofs.YtpmghgfgbkncoaaGreatDoor.gn
end
section
set_option linter.unusedVariables false
namespace Go.Proofs.YtpmghgfgbkncoaaGreatDoor.gn
open Go.RowKit
open Go.Proofs.YtpmghgfgbkncoaaGreatDoor.un
open Go.Proofs.YtpmghgfgbkncoaaGreatDoor.di

def clo (g : FuncId) (c : Nat) : Value := .func (.func g) #[] #[.pointer (some ⟨c, 0, none⟩)]
/-- The closure of a key. -/
def cloF (c : Nat) (j : Tx) : Option Value :=
  if j = accK then some (clo 97 c) else if j = sizeK then some (clo 92 c) else if j = capK then some (clo 92 c)
  else if j = poolK then some (clo 96 c) else if j = nameK then some (clo 94 c) else none
theorem cloF_acc (c : Nat) : cloF c accK = some (clo 97 c) := by unfold cloF; rw [if_pos rfl]
theorem cloF_size (c : Nat) : cloF c sizeK = some (clo 92 c) := by unfold cloF; rw [if_neg (by decide), if_pos rfl]
theorem cloF_cap (c : Nat) : cloF c capK = some (clo 92 c) := by unfold cloF; rw [if_neg (by decide), if_neg (by decide), if_pos rfl]
theorem cloF_pool (c : Nat) : cloF c poolK = some (clo 96 c) := by unfold cloF; rw [if_neg (by decide), if_neg (by decide), if_neg (by decide), if_pos rfl]
theorem cloF_name (c : Nat) : cloF c nameK = some (clo 94 c) := by unfold cloF; rw [if_neg (by decide), if_neg (by decide), if_neg (by decide), if_neg (by decide), if_pos rfl]

/-- The map of the closures, for the directive in block bd. -/
structure StM (w : World) (B b c bd : Nat) (L : List (Tx × Value)) : Prop where
  m : MapV w b L
  get : ∀ j, fi.get j L = cloF c j
  ptr : PtrB w c bd
  hb : B ≤ b
  hc : B ≤ c
theorem StM.next {w w' : World} {B b c bd : Nat} {L : List (Tx × Value)} (h : StM w B b c bd L) (hb : Below w.heap.size w w') : StM w' B b c bd L := ⟨h.m.next hb, h.get, h.ptr.next hb, h.hb, h.hc⟩
theorem StM.but {w w' : World} {B b c bd R : Nat} {L : List (Tx × Value)} (h : StM w B b c bd L) (hb : But R w w') (hR : R < B) : StM w' B b c bd L :=
  ⟨h.m.but hb (by have := h.hb; omega), h.get, h.ptr.but hb (by have := h.hc; omega), h.hb, h.hc⟩

set_option maxRecDepth 100000 in
set_option maxHeartbeats 3200000 in
theorem stores_any (bd : Nat) (w : World) : Calls Tryz.prog 76 #[.pointer (some ⟨bd, 0, none⟩)] w fun e w' => ∃ b c L, e = .returned (.map (some b)) ∧ StM w' w.heap.size b c bd L ∧ Below w.heap.size w w' := by
  have ht := Tryz.underlying114
  have p0 : PtrB (w.alloc (.cells #[.pointer (some ⟨bd, 0, none⟩)] 116)) w.heap.size bd := BoxA.new _ _ _
  have b0 : Below w.heap.size w (w.alloc (.cells #[.pointer (some ⟨bd, 0, none⟩)] 116)) := (Below.refl _ w).alloc (Nat.le_refl _) _
  obtain ⟨z, hz⟩ : ∃ z, w.alloc (.cells #[.pointer (some ⟨bd, 0, none⟩)] 116) = z := ⟨_, rfl⟩
  have sz : z.heap.size = w.heap.size + 1 := by rw [← hz]; simp
  rw [hz] at p0 b0
  have y0 : Below z.heap.size z (z.alloc (.map #[] 0)) := (Below.refl _ _).alloc (Nat.le_refl _) _
  have m0 := MapV.new z
  have P0 := p0.next y0
  have B0 : Below w.heap.size w (z.alloc (.map #[] 0)) := b0.trans (y0.mono b0.size)
  have l0 : ([] : List (Tx × Value)).length ≤ 0 := Nat.le_refl _
  obtain ⟨v1, L1, r1, m1, l1, q1, g1⟩ := m0.put2 l0 (k := nameK) ht (by decide) (by decide) (clo 94 w.heap.size)
  obtain ⟨v2, L2, r2, m2, l2, q2, g2⟩ := m1.put2 l1 (k := poolK) ht (by decide) (by decide) (clo 96 w.heap.size)
  obtain ⟨v3, L3, r3, m3, l3, q3, g3⟩ := m2.put2 l2 (k := capK) ht (by decide) (by decide) (clo 92 w.heap.size)
  obtain ⟨v4, L4, r4, m4, l4, q4, g4⟩ := m3.put2 l3 (k := sizeK) ht (by decide) (by decide) (clo 92 w.heap.size)
  obtain ⟨v5, L5, r5, m5, l5, q5, g5⟩ := m4.put2 l4 (k := accK) ht (by decide) (by decide) (clo 97 w.heap.size)
  have hg : But z.heap.size (z.alloc (.map #[] 0)) v5 := (((g1.trans g2).trans g3).trans g4).trans g5
  have HB := Lib.hid (B0.grown hg B0.size (fun j hj => by cases hj; rw [sz]; omega))
  have HS := Lib.hid (show StM v5 w.heap.size z.heap.size w.heap.size bd L5 from
    ⟨m5, fun j => by rw [q5, q4, q3, q2, q1]; rfl, P0.but hg (by rw [sz]; omega), by rw [sz]; omega, Nat.le_refl _⟩)
  have u1 : (Instr.mapUpdate 114 (.map (some (w.heap.size + 1))) (.string { data := #[110, 97, 109, 101] }) (.func (.func 94) #[] #[.pointer (some ⟨w.heap.size, 0, none⟩)])).run Tryz.prog (z.alloc (.map #[] 0)) = .ok () v1 := by rw [← sz]; exact r1
  have u2 : (Instr.mapUpdate 114 (.map (some (w.heap.size + 1))) (.string { data := #[112, 111, 111, 108] }) (.func (.func 96) #[] #[.pointer (some ⟨w.heap.size, 0, none⟩)])).run Tryz.prog v1 = .ok () v2 := by rw [← sz]; exact r2
  have u3 : (Instr.mapUpdate 114 (.map (some (w.heap.size + 1))) (.string { data := #[99, 97, 112, 97, 99, 105, 116, 121] }) (.func (.func 92) #[] #[.pointer (some ⟨w.heap.size, 0, none⟩)])).run Tryz.prog v2 = .ok () v3 := by rw [← sz]; exact r3
  have u4 : (Instr.mapUpdate 114 (.map (some (w.heap.size + 1))) (.string { data := #[115, 105, 122, 101] }) (.func (.func 92) #[] #[.pointer (some ⟨w.heap.size, 0, none⟩)])).run Tryz.prog v3 = .ok () v4 := by rw [← sz]; exact r4
  have u5 : (Instr.mapUpdate 114 (.map (some (w.heap.size + 1))) (.string { data := #[97, 99, 99, 101, 115, 115] }) (.func (.func 97) #[] #[.pointer (some ⟨w.heap.size, 0, none⟩)])).run Tryz.prog v4 = .ok () v5 := by rw [← sz]; exact r5
  rw [← hz] at u1
  have SZ := Lib.hid sz
  have hmm := @run_makeMap Tryz.prog
  clear p0 b0 sz y0 m0 P0 B0 l0 r1 r2 r3 r4 r5 m1 m2 m3 m4 m5 l1 l2 l3 l4 l5 q1 q2 q3 q4 q5 g1 g2 g3 g4 g5 hg hz
  go_enter Tryz.func76, Tryz.ntmps76
  go_wp2
  go_ret
  exact ⟨z.heap.size, _, _, by rw [SZ.out]; rfl, HS.out, HB.out⟩
end Go.Proofs.YtpmghgfgbkncoaaGreatDoor.gn
end
