/- OrderOne's walk. (Written by gen_orOn.py.) -/
import Derived.Test.YtekcjfdllclphaaGreatDoorMQaGenLoad
import Derived.Test.YtekcjfdllclphaaGreatDoorMQaOrHd
section
set_option linter.unusedVariables false
set_option linter.unusedSimpArgs false
namespace Go.Proofs.YtekcjfdllclphaaGreatDoor.gn
open Go.RowKit
open Go.Proofs.YtekcjfdllclphaaGreatDoor.un
open Go.Proofs.YtekcjfdllclphaaGreatDoor.di
open Go.Proofs.YtekcjfdllclphaaGreatDoor.sp (Slip)
open Go.Proofs.YtekcjfdllclphaaGreatDoor.od (Ord OkO oread chkO chkO_iff txtO oread_txt txtO_len)
theorem oparse_by {s:Tx} (hm:s.length≤100000) {o:Ord} {e:Int} {i:Nat} (h:oread s=(o,e,i)) (w:World) (hL:LaidD w):Calls Tryz.prog 8 #[.string (str s)] w (OPaA o e (i:Int) w) :=
 oparse_as hm (by rw [h]) (by rw [h]) (by rw [h]) w hL
end Go.Proofs.YtekcjfdllclphaaGreatDoor.gn
end
