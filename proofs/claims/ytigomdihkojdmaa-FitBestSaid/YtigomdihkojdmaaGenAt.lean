/- For any seat: the operations of a region, written out. -/
import Derived.Test.YtigomdihkojdmaaStA
import Derived.Deep.RegionHeld3
import Derived.Deep.DeepCutAuto
import Derived.Deep.DrawnRows
namespace Go.Proofs.Ytigomdihkojdmaa.gn

/-- The operations of a region, written out. -/
theorem at0 {α : Type} {o : α} {l : List α} : (o :: l)[0]? = some o := rfl
theorem atS {α : Type} {o x : α} {l : List α} {n : Nat} (h : l[n]? = some o) : (x :: l)[n + 1]? = some o := h
theorem ata {α : Type} {o : α} {l : List α} {n : Nat} (h : l[n]? = some o) : l.toArray[n]? = some o := by simpa using h

end Go.Proofs.Ytigomdihkojdmaa.gn
