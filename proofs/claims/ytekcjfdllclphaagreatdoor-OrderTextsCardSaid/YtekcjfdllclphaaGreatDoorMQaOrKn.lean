/- OrderKinds' walk. (Written by gen_orKn.py.) -/
import Derived.Test.YtekcjfdllclphaaGreatDoorMQaGenLoad
import Derived.Test.YtekcjfdllclphaaGreatDoorMQaOrGr
import Derived.Test.YtekcjfdllclphaaGreatDoorMQaOrOn
import Derived.Test.YtekcjfdllclphaaGreatDoorMQaOrHd
section
set_option linter.unusedVariables false
set_option linter.unusedSimpArgs false
namespace Go.Proofs.YtekcjfdllclphaaGreatDoor.gn
open Go.RowKit
open Go.Proofs.YtekcjfdllclphaaGreatDoor.un
open Go.Proofs.YtekcjfdllclphaaGreatDoor.di
open Go.Proofs.YtekcjfdllclphaaGreatDoor.sp (Slip)
open Go.Proofs.YtekcjfdllclphaaGreatDoor.od (Ord OkO oread chkO chkO_iff txtO oread_txt txtO_len)
theorem two_orders (w:World) (x y:Ord) (g g':Gh):∃ W,(w.alloc (.cells (ocs x g) 29)).alloc (.cells (ocs y g') 29)=W∧OrdB W w.heap.size x g∧OrdB W (w.heap.size+1) y g'∧Below w.heap.size w W:=made2 w (ocs x g) (ocs y g') 29 29
end Go.Proofs.YtekcjfdllclphaaGreatDoor.gn
end
