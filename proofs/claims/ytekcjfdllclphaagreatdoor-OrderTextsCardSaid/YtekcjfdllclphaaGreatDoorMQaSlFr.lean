/- The document's first. (Written by gen_slFr.py.) -/
import Derived.Test.YtekcjfdllclphaaGreatDoorMQaGenLoad
import Derived.Deep.DeepCutAuto
import Derived.Deep.CutBlock
import Derived.Deep.RegionHeld3
section
set_option linter.unusedVariables false
set_option linter.unusedSimpArgs false
namespace Go.Proofs.YtekcjfdllclphaaGreatDoor.gn
open Go.RowKit
open Go.Proofs.YtekcjfdllclphaaGreatDoor.un
open Go.Proofs.YtekcjfdllclphaaGreatDoor.di
open Go.Proofs.YtekcjfdllclphaaGreatDoor.sp (Slip cutB cuts cuts_ne fput frun first? jobW userK nodesK wallK qosK afterK within? dep? okW anyW)
theorem cuts_len (c:UInt8):∀ l:Tx,(cuts c l).length≤l.length+1∧∀ p∈cuts c l,p.length≤l.length
 | []=>by simp [cuts]
 | b::r=>by
  obtain ⟨h1,h2⟩:=cuts_len c r
  unfold cuts
  split
  ·refine ⟨by simp;omega,fun p hp=>?_⟩
   rcases List.mem_cons.1 hp with rfl | hp
   ·simp
   ·have:=h2 p hp;simp;omega
  ·cases hr:cuts c r with
   | nil=>exact absurd hr (cuts_ne c r)
   | cons h t =>
    rw [hr] at h1 h2
    refine ⟨by simp at h1 ⊢;omega,fun p hp=>?_⟩
    rcases List.mem_cons.1 hp with rfl | hp
    ·have:=h2 h (by simp);simp;omega
    ·have:=h2 p (by simp [hp]);simp;omega
theorem within_le {s:Tx} {a b n:Nat} (h:within? s a b=some n):a≤n∧n≤b:=by
 unfold within? at h
 split at h
 ·split at h
  ·cases h;assumption
  ·cases h
 ·cases h
end Go.Proofs.YtekcjfdllclphaaGreatDoor.gn
end
