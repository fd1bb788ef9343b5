/- slices.SortFunc, Clone, ContainsFunc laid at this translation (written by gen_xlay.py). -/
import Derived.Ground.SlsoProg
import Derived.Shelf.SlSorted.Search
import Derived.Test.YtdjpnlkhdilakaaProg
set_option linter.unusedVariables false
namespace Go.Proofs.Ytdjpnlkhdilakaa.gn
open Go.Shelf
def laySearch_ren : Go.Shelf.Ren := ⟨fun | 16 => 57 | n => n, fun | 3 => 3 | 35 => 87 | 4 => 4 | 38 => 96 | n => n, fun | n => n⟩
theorem laySearch : Go.Proofs.SlLaysO.n16 Try.prog laySearch_ren := {
  mixed := by kernel_rfl
  f16 := Try.func57.trans (congrArg some (by kernel_rfl))
  t3 := Try.underlying3
  a3 := Try.isAgg3
  z3 := Try.sizeOf3
  v3 := Try.zeroValue3
  t4 := Try.underlying4
  a4 := Try.isAgg4
  z4 := Try.sizeOf4
  v4 := Try.zeroValue4
  t35 := Try.underlying87
  a35 := Try.isAgg87
  z35 := Try.sizeOf87
  v35 := Try.zeroValue87
  t38 := Try.underlying96
  a38 := Try.isAgg96
  z38 := Try.sizeOf96
  v38 := Try.zeroValue96 }

end Go.Proofs.Ytdjpnlkhdilakaa.gn
