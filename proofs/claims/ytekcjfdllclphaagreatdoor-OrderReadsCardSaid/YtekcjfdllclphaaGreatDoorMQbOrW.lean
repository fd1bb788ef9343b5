/- The document's Check of an order. (Written by gen_orW.py.) -/
import Derived.Test.YtekcjfdllclphaaGreatDoorMQbOrV
import Derived.Test.YtekcjfdllclphaaGreatDoorMQbOrK
import Derived.Test.YtekcjfdllclphaaGreatDoorMQbSlDs
import Derived.Test.YtekcjfdllclphaaGreatDoorMQbSlDc
import Derived.BigQuiet
set_option linter.unusedVariables false
set_option linter.unusedSimpArgs false
section
namespace Go.Proofs.YtekcjfdllclphaaGreatDoor.gn
open Go.RowKit
open Go.Proofs.YtekcjfdllclphaaGreatDoor.un
open Go.Proofs.YtekcjfdllclphaaGreatDoor.di
open Go.Proofs.YtekcjfdllclphaaGreatDoor.sp (Slip chkS)
open Go.Proofs.YtekcjfdllclphaaGreatDoor.od (Ord OkO wordO hasJ hasN hasU hasP lo hi chkO chkO_iff chk_kind)
def BN (o:Ord):Prop:=(hasN o.kind=true→(lo o.kind:Int)≤o.n∧o.n≤hi o.kind)∧(hasN o.kind=false→o.n=0)
def BJ (o:Ord):Prop:=(hasJ o.kind=true→1≤o.job∧o.job≤1073741824)∧(hasJ o.kind=false→o.job=0)
def BW (o:Ord):Prop:=(hasU o.kind=true→isName o.name=true∧isName o.user=true)∧(hasU o.kind=false→o.name=[]∧o.user=[])∧(hasP o.kind=true→isName o.pool=true)∧(hasP o.kind=false→o.pool=[])
def BS (o:Ord):Prop:=(o.kind=15→1≤o.size∧o.size≤1099511627776)∧(o.kind≠15→o.size=0)∧(o.kind≠7→o.kind≠15→o.yes=false)
instance (o:Ord):Decidable (BN o):=by unfold BN;infer_instance
instance (o:Ord):Decidable (BJ o):=by unfold BJ;infer_instance
instance (o:Ord):Decidable (BW o):=by unfold BW;infer_instance
instance (o:Ord):Decidable (BS o):=by unfold BS;infer_instance
end Go.Proofs.YtekcjfdllclphaaGreatDoor.gn
end
