/- The document's answer: Text. -/
import Derived.Test.YtekcjfdllclphaaGreatDoorMQbDiS
import Derived.Test.YtekcjfdllclphaaGreatDoorMQbDiL
import Derived.Test.YtekcjfdllclphaaGreatDoorMQbSlLi
import Derived.Deep.RegionHeld3
import Derived.Deep.DeepCutAuto
set_option linter.unusedVariables false
set_option linter.unusedSimpArgs false
section
namespace Go.Proofs.YtekcjfdllclphaaGreatDoor.gn
open Go.RowKit
open Go.Proofs.YtekcjfdllclphaaGreatDoor.un
open Go.Proofs.YtekcjfdllclphaaGreatDoor.di
theorem below_udrew2 {B:Nat} {w w':World} (h:Below B w.drew w'):Below B w w':=⟨h.os,h.tape,h.output,h.size,h.block⟩
end Go.Proofs.YtekcjfdllclphaaGreatDoor.gn
end
