/- The contract of stores: the map of the closures. -/
import Derived.Test.YtekcjfdllclphaaGreatDoorMSlP
import Derived.Ground.NamesProg
import Derived.Shelf.Strings.Cut
import Derived.Shelf.Strings.Prefix
import Derived.Shelf.Strings.Split
import Derived.Test.YtekcjfdllclphaaGreatDoorProg
section
set_option linter.unusedVariables false
namespace Go.Proofs.YtekcjfdllclphaaGreatDoor.gn
open Go.RowKit
open Go.Proofs.YtekcjfdllclphaaGreatDoor.un
open Go.Proofs.YtekcjfdllclphaaGreatDoor.di

def clo (g : FuncId) (c : Nat) : Value := .func (.func g) #[] #[.pointer (some ⟨c, 0, none⟩)]
/-- The closure of a key. -/
def cloF (c : Nat) (j : Tx) : Option Value :=
  if j = accK then some (clo 148 c) else if j = sizeK then some (clo 144 c) else if j = capK then some (clo 144 c)
  else if j = poolK then some (clo 147 c) else if j = nameK then some (clo 145 c) else none
theorem cloF_acc (c : Nat) : cloF c accK = some (clo 148 c) := by unfold cloF; rw [if_pos rfl]
theorem cloF_size (c : Nat) : cloF c sizeK = some (clo 144 c) := by unfold cloF; rw [if_neg (by decide), if_pos rfl]
theorem cloF_cap (c : Nat) : cloF c capK = some (clo 144 c) := by unfold cloF; rw [if_neg (by decide), if_neg (by decide), if_pos rfl]
theorem cloF_pool (c : Nat) : cloF c poolK = some (clo 147 c) := by unfold cloF; rw [if_neg (by decide), if_neg (by decide), if_neg (by decide), if_pos rfl]
theorem cloF_name (c : Nat) : cloF c nameK = some (clo 145 c) := by unfold cloF; rw [if_neg (by decide), if_neg (by decide), if_neg (by decide), if_neg (by decide), if_pos rfl]

/-- The map of the closures, for the directive in block bd. -/
structure StM (w : World) (B b c bd : Nat) (L : List (Tx × Value)) : Prop where
  m : MapV w b L
  get : ∀ j, fi.get j L = cloF c j
  ptr : PtrB w c bd
  hb : B ≤ b
  hc : B ≤ c
theorem StM.next {w w' : World} {B b c bd : Nat} {L : List (Tx × Value)} (h : StM w B b c bd L) (hb : Below w.heap.size w w') : StM w' B b c bd L := ⟨h.m.next hb, h.get, h.ptr.next hb, h.hb, h.hc⟩
theorem StM.but {w w' : World} {B b c bd R : Nat} {L : List (Tx × Value)} (h : StM w B b c bd L) (hb : But R w w') (hR : R < B) : StM w' B b c bd L :=
  ⟨h.m.but hb (by have := h.hb; omega), h.get, h.ptr.but hb (by have := h.hc; omega), h.hb, h.hc⟩

set_option maxRecDepth 100000 in
set_option maxHeartbeats 3200000 in
theorem stores_any (bd : Nat) (w : World) : Calls Tryz.prog 123 #[.pointer (some ⟨bd, 0, none⟩)] w fun e w' => ∃ b c L, e = .returned (.map (some b)) ∧ StM w' w.heap.size b c bd L ∧ Below w.heap.size w w' := by
  have ht := Tryz.underlying155
  have p0 : PtrB (w.alloc (.cells #[.pointer (some ⟨bd, 0, none⟩)] 157)) w.heap.size bd := BoxA.new _ _ _
  have b0 : Below w.heap.size w (w.alloc (.cells #[.pointer (some ⟨bd, 0, none⟩)] 157)) := (Below.refl _ w).alloc (Nat.le_refl _) _
  obtain ⟨z, hz⟩ : ∃ z, w.alloc (.cells #[.pointer (some ⟨bd, 0, none⟩)] 157) = z := ⟨_, rfl⟩
  have sz : z.heap.size = w.heap.size + 1 := by rw [← hz]; simp
  rw [hz] at p0 b0
  have y0 : Below z.heap.size z (z.alloc (.map #[] 0)) := (Below.refl _ _).alloc (Nat.le_refl _) _
  have m0 := MapV.new z
  have P0 := p0.next y0
  have B0 : Below w.heap.size w (z.alloc (.map #[] 0)) := b0.trans (y0.mono b0.size)
  have l0 : ([] : List (Tx × Value)).length ≤ 0 := Nat.le_refl _
  obtain ⟨v1, L1, r1, m1, l1, q1, g1⟩ := m0.put2 l0 (k := nameK) ht (by decide) (by decide) (clo 145 w.heap.size)
  obtain ⟨v2, L2, r2, m2, l2, q2, g2⟩ := m1.put2 l1 (k := poolK) ht (by decide) (by decide) (clo 147 w.heap.size)
  obtain ⟨v3, L3, r3, m3, l3, q3, g3⟩ := m2.put2 l2 (k := capK) ht (by decide) (by decide) (clo 144 w.heap.size)
  obtain ⟨v4, L4, r4, m4, l4, q4, g4⟩ := m3.put2 l3 (k := sizeK) ht (by decide) (by decide) (clo 144 w.heap.size)
  obtain ⟨v5, L5, r5, m5, l5, q5, g5⟩ := m4.put2 l4 (k := accK) ht (by decide) (by decide) (clo 148 w.heap.size)
  have hg : But z.heap.size (z.alloc (.map #[] 0)) v5 := (((g1.trans g2).trans g3).trans g4).trans g5
  have HB := Lib.hid (B0.grown hg B0.size (fun j hj => by cases hj; rw [sz]; omega))
  have HS := Lib.hid (show StM v5 w.heap.size z.heap.size w.heap.size bd L5 from
    ⟨m5, fun j => by rw [q5, q4, q3, q2, q1]; rfl, P0.but hg (by rw [sz]; omega), by rw [sz]; omega, Nat.le_refl _⟩)
  have u1 : (Instr.mapUpdate 155 (.map (some (w.heap.size + 1))) (.string { data := #[110, 97, 109, 101] }) (.func (.func 145) #[] #[.pointer (some ⟨w.heap.size, 0, none⟩)])).run Tryz.prog (z.alloc (.map #[] 0)) = .ok () v1 := by rw [← sz]; exact r1
  have u2 : (Instr.mapUpdate 155 (.map (some (w.heap.size + 1))) (.string { data := #[112, 111, 111, 108] }) (.func (.func 147) #[] #[.pointer (some ⟨w.heap.size, 0, none⟩)])).run Tryz.prog v1 = .ok () v2 := by rw [← sz]; exact r2
  have u3 : (Instr.mapUpdate 155 (.map (some (w.heap.size + 1))) (.string { data := #[99, 97, 112, 97, 99, 105, 116, 121] }) (.func (.func 144) #[] #[.pointer (some ⟨w.heap.size, 0, none⟩)])).run Tryz.prog v2 = .ok () v3 := by rw [← sz]; exact r3
  have u4 : (Instr.mapUpdate 155 (.map (some (w.heap.size + 1))) (.string { data := #[115, 105, 122, 101] }) (.func (.func 144) #[] #[.pointer (some ⟨w.heap.size, 0, none⟩)])).run Tryz.prog v3 = .ok () v4 := by rw [← sz]; exact r4
  have u5 : (Instr.mapUpdate 155 (.map (some (w.heap.size + 1))) (.string { data := #[97, 99, 99, 101, 115, 115] }) (.func (.func 148) #[] #[.pointer (some ⟨w.heap.size, 0, none⟩)])).run Tryz.prog v4 = .ok () v5 := by rw [← sz]; exact r5
  rw [← hz] at u1
  have SZ := Lib.hid sz
  have hmm := @run_makeMap Tryz.prog
  clear p0 b0 sz y0 m0 P0 B0 l0 r1 r2 r3 r4 r5 m1 m2 m3 m4 m5 l1 l2 l3 l4 l5 q1 q2 q3 q4 q5 g1 g2 g3 g4 g5 hg hz
  go_enter Tryz.func123, Tryz.ntmps123
  go_wp2
  go_ret
  exact ⟨z.heap.size, _, _, by rw [SZ.out]; rfl, HS.out, HB.out⟩
end Go.Proofs.YtekcjfdllclphaaGreatDoor.gn
end
section
set_option linter.unusedVariables false
namespace Go.Proofs.YtekcjfdllclphaaGreatDoor.gn
open Go.Shelf
def laySplit_ren : Go.Shelf.Ren := ⟨fun | 146 => 107 | 221 => 130 | 268 => 151 | 138 => 152 | 143 => 153 | 195 => 162 | 197 => 163 | 218 => 164 | 219 => 65 | 260 => 176 | 217 => 102 | 225 => 103 | 224 => 104 | 267 => 105 | 266 => 128 | 314 => 129 | n => n, fun | 9 => 9 | 31 => 25 | 3 => 3 | 4 => 4 | 0 => 0 | 105 => 198 | 21 => 21 | 5 => 5 | 46 => 140 | 119 => 216 | 139 => 219 | 138 => 218 | 146 => 166 | 51 => 165 | n => n, fun | 1 => 0 | 3 => 4 | 4 => 5 | n => n⟩
theorem laySplit : Go.Proofs.Lays.n146 Tryz.prog laySplit_ren := {
  mixed := by kernel_rfl
  f138 := Tryz.func152.trans (congrArg some (by kernel_rfl))
  f143 := Tryz.func153.trans (congrArg some (by kernel_rfl))
  f146 := Tryz.func107.trans (congrArg some (by kernel_rfl))
  f195 := Tryz.func162.trans (congrArg some (by kernel_rfl))
  f197 := Tryz.func163.trans (congrArg some (by kernel_rfl))
  f217 := Tryz.func102.trans (congrArg some (by kernel_rfl))
  f218 := Tryz.func164.trans (congrArg some (by kernel_rfl))
  f219 := Tryz.func65.trans (congrArg some (by kernel_rfl))
  f221 := Tryz.func130.trans (congrArg some (by kernel_rfl))
  f224 := Tryz.func104.trans (congrArg some (by kernel_rfl))
  f225 := Tryz.func103.trans (congrArg some (by kernel_rfl))
  f260 := Tryz.func176.trans (congrArg some (by kernel_rfl))
  f266 := Tryz.func128.trans (congrArg some (by kernel_rfl))
  f267 := Tryz.func105.trans (congrArg some (by kernel_rfl))
  f268 := Tryz.func151.trans (congrArg some (by kernel_rfl))
  f314 := Tryz.func129.trans (congrArg some (by kernel_rfl))
  t0 := Tryz.underlying0
  a0 := Tryz.isAgg0
  z0 := Tryz.sizeOf0
  v0 := Tryz.zeroValue0
  t3 := Tryz.underlying3
  a3 := Tryz.isAgg3
  z3 := Tryz.sizeOf3
  v3 := Tryz.zeroValue3
  t4 := Tryz.underlying4
  a4 := Tryz.isAgg4
  z4 := Tryz.sizeOf4
  v4 := Tryz.zeroValue4
  t5 := Tryz.underlying5
  a5 := Tryz.isAgg5
  z5 := Tryz.sizeOf5
  v5 := Tryz.zeroValue5
  t9 := Tryz.underlying9
  a9 := Tryz.isAgg9
  z9 := Tryz.sizeOf9
  v9 := Tryz.zeroValue9
  t21 := Tryz.underlying21
  a21 := Tryz.isAgg21
  z21 := Tryz.sizeOf21
  v21 := Tryz.zeroValue21
  t31 := Tryz.underlying25
  a31 := Tryz.isAgg25
  z31 := Tryz.sizeOf25
  v31 := Tryz.zeroValue25
  t46 := Tryz.underlying140
  a46 := Tryz.isAgg140
  z46 := Tryz.sizeOf140
  v46 := Tryz.zeroValue140
  t51 := Tryz.underlying165
  a51 := Tryz.isAgg165
  z51 := Tryz.sizeOf165
  v51 := Tryz.zeroValue165
  t105 := Tryz.underlying198
  a105 := Tryz.isAgg198
  z105 := Tryz.sizeOf198
  v105 := Tryz.zeroValue198
  t119 := Tryz.underlying216
  a119 := Tryz.isAgg216
  z119 := Tryz.sizeOf216
  t138 := Tryz.underlying218
  a138 := Tryz.isAgg218
  z138 := Tryz.sizeOf218
  v138 := Tryz.zeroValue218
  t139 := Tryz.underlying219
  a139 := Tryz.isAgg219
  z139 := Tryz.sizeOf219
  v139 := Tryz.zeroValue219
  t146 := Tryz.underlying166
  a146 := Tryz.isAgg166
  z146 := Tryz.sizeOf166
  v146 := Tryz.zeroValue166
  g1 := by kernel_rfl
  g3 := by kernel_rfl
  g4 := by kernel_rfl }
def layCut_ren : Go.Shelf.Ren := ⟨fun | 145 => 16 | 220 => 37 | 219 => 65 | 217 => 102 | 225 => 103 | 224 => 104 | 267 => 105 | 266 => 128 | 314 => 129 | n => n, fun | 9 => 9 | 4 => 4 | 59 => 44 | 3 => 3 | 5 => 5 | 46 => 140 | 146 => 166 | 51 => 165 | n => n, fun | 1 => 0 | n => n⟩
theorem layCut : Go.Proofs.Lays.n145 Tryz.prog layCut_ren := {
  mixed := by kernel_rfl
  f145 := Tryz.func16.trans (congrArg some (by kernel_rfl))
  f217 := Tryz.func102.trans (congrArg some (by kernel_rfl))
  f219 := Tryz.func65.trans (congrArg some (by kernel_rfl))
  f220 := Tryz.func37.trans (congrArg some (by kernel_rfl))
  f224 := Tryz.func104.trans (congrArg some (by kernel_rfl))
  f225 := Tryz.func103.trans (congrArg some (by kernel_rfl))
  f266 := Tryz.func128.trans (congrArg some (by kernel_rfl))
  f267 := Tryz.func105.trans (congrArg some (by kernel_rfl))
  f314 := Tryz.func129.trans (congrArg some (by kernel_rfl))
  t3 := Tryz.underlying3
  a3 := Tryz.isAgg3
  z3 := Tryz.sizeOf3
  v3 := Tryz.zeroValue3
  t4 := Tryz.underlying4
  a4 := Tryz.isAgg4
  z4 := Tryz.sizeOf4
  v4 := Tryz.zeroValue4
  t5 := Tryz.underlying5
  a5 := Tryz.isAgg5
  z5 := Tryz.sizeOf5
  v5 := Tryz.zeroValue5
  t9 := Tryz.underlying9
  a9 := Tryz.isAgg9
  z9 := Tryz.sizeOf9
  v9 := Tryz.zeroValue9
  t46 := Tryz.underlying140
  a46 := Tryz.isAgg140
  z46 := Tryz.sizeOf140
  v46 := Tryz.zeroValue140
  t51 := Tryz.underlying165
  a51 := Tryz.isAgg165
  z51 := Tryz.sizeOf165
  v51 := Tryz.zeroValue165
  t59 := Tryz.underlying44
  a59 := Tryz.isAgg44
  z59 := Tryz.sizeOf44
  v59 := Tryz.zeroValue44
  t146 := Tryz.underlying166
  a146 := Tryz.isAgg166
  z146 := Tryz.sizeOf166
  v146 := Tryz.zeroValue166
  g1 := by kernel_rfl }
def layHasPrefix_ren : Go.Shelf.Ren := ⟨fun | 99 => 109 | 206 => 136 | n => n, fun | 9 => 9 | 4 => 4 | 3 => 3 | n => n, fun | n => n⟩
theorem layHasPrefix : Go.Proofs.Lays.n99 Tryz.prog layHasPrefix_ren := {
  mixed := by kernel_rfl
  f99 := Tryz.func109.trans (congrArg some (by kernel_rfl))
  f206 := Tryz.func136.trans (congrArg some (by kernel_rfl))
  t3 := Tryz.underlying3
  a3 := Tryz.isAgg3
  z3 := Tryz.sizeOf3
  v3 := Tryz.zeroValue3
  t4 := Tryz.underlying4
  a4 := Tryz.isAgg4
  z4 := Tryz.sizeOf4
  v4 := Tryz.zeroValue4
  t9 := Tryz.underlying9
  a9 := Tryz.isAgg9
  z9 := Tryz.sizeOf9
  v9 := Tryz.zeroValue9 }

end Go.Proofs.YtekcjfdllclphaaGreatDoor.gn
end
