/- The contract of stores: the map of the closures. -/
import Derived.Test.YtfocnipdmckojaaDoorDiF
set_option linter.unusedVariables false
namespace Go.Proofs.YtfocnipdmckojaaDoor.gn
open Go.RowKit
open Go.Proofs.YtfocnipdmckojaaDoor.un
open Go.Proofs.YtfocnipdmckojaaDoor.di

def clo (g : FuncId) (c : Nat) : Value := .func (.func g) #[] #[.pointer (some ⟨c, 0, none⟩)]
/-- The closure of a key. -/
def cloF (c : Nat) (j : Tx) : Option Value :=
  if j = accK then some (clo 46 c) else if j = sizeK then some (clo 41 c) else if j = capK then some (clo 41 c)
  else if j = poolK then some (clo 45 c) else if j = nameK then some (clo 43 c) else none
theorem cloF_acc (c : Nat) : cloF c accK = some (clo 46 c) := by unfold cloF; rw [if_pos rfl]
theorem cloF_size (c : Nat) : cloF c sizeK = some (clo 41 c) := by unfold cloF; rw [if_neg (by decide), if_pos rfl]
theorem cloF_cap (c : Nat) : cloF c capK = some (clo 41 c) := by unfold cloF; rw [if_neg (by decide), if_neg (by decide), if_pos rfl]
theorem cloF_pool (c : Nat) : cloF c poolK = some (clo 45 c) := by unfold cloF; rw [if_neg (by decide), if_neg (by decide), if_neg (by decide), if_pos rfl]
theorem cloF_name (c : Nat) : cloF c nameK = some (clo 43 c) := by unfold cloF; rw [if_neg (by decide), if_neg (by decide), if_neg (by decide), if_neg (by decide), if_pos rfl]

/-- The map of the closures, for the directive in block bd. -/
structure StM (w : World) (B b c bd : Nat) (L : List (Tx × Value)) : Prop where
  m : MapV w b L
  get : ∀ j, fi.get j L = cloF c j
  ptr : PtrB w c bd
  hb : B ≤ b
  hc : B ≤ c
theorem StM.next {w w' : World} {B b c bd : Nat} {L : List (Tx × Value)} (h : StM w B b c bd L) (hb : Below w.heap.size w w') : StM w' B b c bd L := ⟨h.m.next hb, h.get, h.ptr.next hb, h.hb, h.hc⟩
theorem StM.but {w w' : World} {B b c bd R : Nat} {L : List (Tx × Value)} (h : StM w B b c bd L) (hb : But R w w') (hR : R < B) : StM w' B b c bd L :=
  ⟨h.m.but hb (by have := h.hb; omega), h.get, h.ptr.but hb (by have := h.hc; omega), h.hb, h.hc⟩

set_option maxRecDepth 100000 in
set_option maxHeartbeats 3200000 in
theorem stores_any (bd : Nat) (w : World) : Calls Tryd.prog 29 #[.pointer (some ⟨bd, 0, none⟩)] w fun e w' => ∃ b c L, e = .returned (.map (some b)) ∧ StM w' w.heap.size b c bd L ∧ Below w.heap.size w w' := by
  have ht := Tryd.underlying63
  have p0 : PtrB (w.alloc (.cells #[.pointer (some ⟨bd, 0, none⟩)] 49)) w.heap.size bd := BoxA.new _ _ _
  have b0 : Below w.heap.size w (w.alloc (.cells #[.pointer (some ⟨bd, 0, none⟩)] 49)) := (Below.refl _ w).alloc (Nat.le_refl _) _
  obtain ⟨z, hz⟩ : ∃ z, w.alloc (.cells #[.pointer (some ⟨bd, 0, none⟩)] 49) = z := ⟨_, rfl⟩
  have sz : z.heap.size = w.heap.size + 1 := by rw [← hz]; simp
  rw [hz] at p0 b0
  have y0 : Below z.heap.size z (z.alloc (.map #[] 0)) := (Below.refl _ _).alloc (Nat.le_refl _) _
  have m0 := MapV.new z
  have P0 := p0.next y0
  have B0 : Below w.heap.size w (z.alloc (.map #[] 0)) := b0.trans (y0.mono b0.size)
  have l0 : ([] : List (Tx × Value)).length ≤ 0 := Nat.le_refl _
  obtain ⟨v1, L1, r1, m1, l1, q1, g1⟩ := m0.put2 l0 (k := nameK) ht (by decide) (by decide) (clo 43 w.heap.size)
  obtain ⟨v2, L2, r2, m2, l2, q2, g2⟩ := m1.put2 l1 (k := poolK) ht (by decide) (by decide) (clo 45 w.heap.size)
  obtain ⟨v3, L3, r3, m3, l3, q3, g3⟩ := m2.put2 l2 (k := capK) ht (by decide) (by decide) (clo 41 w.heap.size)
  obtain ⟨v4, L4, r4, m4, l4, q4, g4⟩ := m3.put2 l3 (k := sizeK) ht (by decide) (by decide) (clo 41 w.heap.size)
  obtain ⟨v5, L5, r5, m5, l5, q5, g5⟩ := m4.put2 l4 (k := accK) ht (by decide) (by decide) (clo 46 w.heap.size)
  have hg : But z.heap.size (z.alloc (.map #[] 0)) v5 := (((g1.trans g2).trans g3).trans g4).trans g5
  have HB := Lib.hid (B0.grown hg B0.size (fun j hj => by cases hj; rw [sz]; omega))
  have HS := Lib.hid (show StM v5 w.heap.size z.heap.size w.heap.size bd L5 from
    ⟨m5, fun j => by rw [q5, q4, q3, q2, q1]; rfl, P0.but hg (by rw [sz]; omega), by rw [sz]; omega, Nat.le_refl _⟩)
  have u1 : (Instr.mapUpdate 63 (.map (some (w.heap.size + 1))) (.string { data := #[110, 97, 109, 101] }) (.func (.func 43) #[] #[.pointer (some ⟨w.heap.size, 0, none⟩)])).run Tryd.prog (z.alloc (.map #[] 0)) = .ok () v1 := by rw [← sz]; exact r1
  have u2 : (Instr.mapUpdate 63 (.map (some (w.heap.size + 1))) (.string { data := #[112, 111, 111, 108] }) (.func (.func 45) #[] #[.pointer (some ⟨w.heap.size, 0, none⟩)])).run Tryd.prog v1 = .ok () v2 := by rw [← sz]; exact r2
  have u3 : (Instr.mapUpdate 63 (.map (some (w.heap.size + 1))) (.string { data := #[99, 97, 112, 97, 99, 105, 116, 121] }) (.func (.func 41) #[] #[.pointer (some ⟨w.heap.size, 0, none⟩)])).run Tryd.prog v2 = .ok () v3 := by rw [← sz]; exact r3
  have u4 : (Instr.mapUpdate 63 (.map (some (w.heap.size + 1))) (.string { data := #[115, 105, 122, 101] }) (.func (.func 41) #[] #[.pointer (some ⟨w.heap.size, 0, none⟩)])).run Tryd.prog v3 = .ok () v4 := by rw [← sz]; exact r4
  have u5 : (Instr.mapUpdate 63 (.map (some (w.heap.size + 1))) (.string { data := #[97, 99, 99, 101, 115, 115] }) (.func (.func 46) #[] #[.pointer (some ⟨w.heap.size, 0, none⟩)])).run Tryd.prog v4 = .ok () v5 := by rw [← sz]; exact r5
  rw [← hz] at u1
  have SZ := Lib.hid sz
  have hmm := @run_makeMap Tryd.prog
  clear p0 b0 sz y0 m0 P0 B0 l0 r1 r2 r3 r4 r5 m1 m2 m3 m4 m5 l1 l2 l3 l4 l5 q1 q2 q3 q4 q5 g1 g2 g3 g4 g5 hg hz
  go_enter Tryd.func29, Tryd.ntmps29
  go_wp2
  go_ret
  exact ⟨z.heap.size, _, _, by rw [SZ.out]; rfl, HS.out, HB.out⟩
end Go.Proofs.YtfocnipdmckojaaDoor.gn
