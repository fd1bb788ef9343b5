/- The document's Parse of a directive. (Written by gen_diU.py.) -/
import Derived.Test.YtekcjfdllclphaaGreatDoorMQaDiT
import Derived.Test.YtekcjfdllclphaaGreatDoorMQaDiJ
import Derived.Test.YtekcjfdllclphaaGreatDoorMQaUnM
section
set_option linter.unusedVariables false
namespace Go.Proofs.YtekcjfdllclphaaGreatDoor.gn
open Go.RowKit
open Go.Proofs.YtekcjfdllclphaaGreatDoor.un
open Go.Proofs.YtekcjfdllclphaaGreatDoor.di
structure UK (w:World) (d:Dir) (b5 g:Nat) (L:List Tx) (W:World):Prop where
 p5:DirB W b5 d
 z:ZB w W
 ps:Prts W g 0 L
 b:Below w.heap.size w W
end Go.Proofs.YtekcjfdllclphaaGreatDoor.gn
end
