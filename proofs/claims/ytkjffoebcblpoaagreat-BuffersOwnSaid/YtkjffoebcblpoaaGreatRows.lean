/-
  No cell of these rows narrows 'for every input' (looked for: loops, veiled, ifaces, maps, wideKeys, modest, calm, conditions, laid).
  DERIVED. THE GIVEN ROWS OF THIS SEAT. 4 by the template 'for every input the law returns true; each argument reads behind the call as it read before'; 0 by the template 'total and deterministic' (their statements: YtkjffoebcblpoaaGreatTotals.lean).
  GIVEN WITH THE SEED: the statements are not yours to turn. If you find one false, say at which input.
  Laid BY PROGRAM, IN A SANDBOX (cutbox-rows.mjs): the forced cells as the released guide's own fill.sh prints them over the translation 37df25aa172babcd… (all of the seat's roots in one cut). By AI agents, Wed Nov 11 2026. No macro, syntax, notation, axiom, sorry.
-/
import Derived.Test.YtkjffoebcblpoaaGreatChecked
import GoSem.Claim
import GoSem.ClaimJoined
import GoSem.ClaimMapViews
import Derived.JoinedTies
import Derived.KernelRfl
namespace Go.Proofs.YtkjffoebcblpoaaGreat
/- THE CELL 'sum', in the pinned program and in every row, IS THE sha256 OF THE DUMP (.gsa) THAT YtkjffoebcblpoaaGreatProg.lean LOADS. Nothing in Lean hashes anything: it is a label: what it is worth is what the hold of that sum in a sandbox is worth. -/
noncomputable def Tryz.pinned : Pinned := { name := "ytkjffoebcblpoaagreat", sum := "37df25aa172babcdd8dc87224c0828111bf0ff22e4a482a16d73c0e6f873604b", checked := Tryz.checked }
namespace Rows
def none {H : Type} : Left H := { results := [], args := [] }

/-- 'forebaylaw17.BuffersTell': WHATEVER THE INPUT: true; the input reads as it did. -/
def buffersTellSpec : ChangeSpec := { name := "buffersTell", fn := fun _ => fun
  | [d] => { results := [.lit (.bool true)], args := [d] }
  | _ => none }
def buffersTellRow : OpenClaim := { program := "ytkjffoebcblpoaagreat", sum := "37df25aa172babcdd8dc87224c0828111bf0ff22e4a482a16d73c0e6f873604b", func := "forebay/forebaylaw17.BuffersTell", spec := "buffersTell", inPlace := ["internal/bytealg.abigen_runtime_cmpstring", "slices.overlaps[int64]"], unfollowed := true, recurses := true, apart := false }
def BuffersTellSaid : Prop := buffersTellRow.holds Tryz.pinned (OpenSpec.ofChange buffersTellSpec)

/-- ITS FALSE NEIGHBOUR: 'it returns false'. Refute it at one input. -/
def buffersTellWrong : ChangeSpec := { name := "buffersTell", fn := fun _ => fun
  | [d] => { results := [.lit (.bool false)], args := [d] }
  | _ => none }
def BuffersTellWrongFalsely : Prop := buffersTellRow.holds Tryz.pinned (OpenSpec.ofChange buffersTellWrong)

/-- 'forebaylaw17.BuffersBack': WHATEVER THE INPUT: true; the input reads as it did. -/
def buffersBackSpec : ChangeSpec := { name := "buffersBack", fn := fun _ => fun
  | [d] => { results := [.lit (.bool true)], args := [d] }
  | _ => none }
def buffersBackRow : OpenClaim := { program := "ytkjffoebcblpoaagreat", sum := "37df25aa172babcdd8dc87224c0828111bf0ff22e4a482a16d73c0e6f873604b", func := "forebay/forebaylaw17.BuffersBack", spec := "buffersBack", inPlace := ["internal/bytealg.abigen_runtime_cmpstring", "slices.overlaps[int64]"], unfollowed := true, recurses := true, apart := false }
def BuffersBackSaid : Prop := buffersBackRow.holds Tryz.pinned (OpenSpec.ofChange buffersBackSpec)

/-- ITS FALSE NEIGHBOUR: 'it returns false'. Refute it at one input. -/
def buffersBackWrong : ChangeSpec := { name := "buffersBack", fn := fun _ => fun
  | [d] => { results := [.lit (.bool false)], args := [d] }
  | _ => none }
def BuffersBackWrongFalsely : Prop := buffersBackRow.holds Tryz.pinned (OpenSpec.ofChange buffersBackWrong)

/-- 'forebaylaw17.BuffersOwn': WHATEVER THE INPUT: true; the input reads as it did. -/
def buffersOwnSpec : ChangeSpec := { name := "buffersOwn", fn := fun _ => fun
  | [d] => { results := [.lit (.bool true)], args := [d] }
  | _ => none }
def buffersOwnRow : OpenClaim := { program := "ytkjffoebcblpoaagreat", sum := "37df25aa172babcdd8dc87224c0828111bf0ff22e4a482a16d73c0e6f873604b", func := "forebay/forebaylaw17.BuffersOwn", spec := "buffersOwn", inPlace := ["internal/bytealg.abigen_runtime_cmpstring", "slices.overlaps[int64]"], unfollowed := true, recurses := true, apart := false }
def BuffersOwnSaid : Prop := buffersOwnRow.holds Tryz.pinned (OpenSpec.ofChange buffersOwnSpec)

/-- ITS FALSE NEIGHBOUR: 'it returns false'. Refute it at one input. -/
def buffersOwnWrong : ChangeSpec := { name := "buffersOwn", fn := fun _ => fun
  | [d] => { results := [.lit (.bool false)], args := [d] }
  | _ => none }
def BuffersOwnWrongFalsely : Prop := buffersOwnRow.holds Tryz.pinned (OpenSpec.ofChange buffersOwnWrong)

/-- 'forebaylaw17.BuffersApart': WHATEVER THE INPUT: true; the input reads as it did. -/
def buffersApartSpec : ChangeSpec := { name := "buffersApart", fn := fun _ => fun
  | [d] => { results := [.lit (.bool true)], args := [d] }
  | _ => none }
def buffersApartRow : OpenClaim := { program := "ytkjffoebcblpoaagreat", sum := "37df25aa172babcdd8dc87224c0828111bf0ff22e4a482a16d73c0e6f873604b", func := "forebay/forebaylaw17.BuffersApart", spec := "buffersApart", inPlace := ["internal/bytealg.abigen_runtime_cmpstring", "slices.overlaps[int64]"], unfollowed := true, recurses := true, apart := false }
def BuffersApartSaid : Prop := buffersApartRow.holds Tryz.pinned (OpenSpec.ofChange buffersApartSpec)

/-- ITS FALSE NEIGHBOUR: 'it returns false'. Refute it at one input. -/
def buffersApartWrong : ChangeSpec := { name := "buffersApart", fn := fun _ => fun
  | [d] => { results := [.lit (.bool false)], args := [d] }
  | _ => none }
def BuffersApartWrongFalsely : Prop := buffersApartRow.holds Tryz.pinned (OpenSpec.ofChange buffersApartWrong)

/- THE SECOND FORM. 'bulk': how many values and letters a reading holds, each counted each time it is reached (what is shared counts as often as it is met; a slice's spare places count too). A statement '..UptoSaid' is the law's where the arguments, and the package variables that the reading takes, are together of bulk at most 1048576: NARROWER than '..Said'. Prove '..Said' where nothing that the law and all that it calls make is longer than what came in: it says more and counts as full. Else prove '..UptoSaid'. A law counts once. -/
mutual
def uptoBulk {H : Type} : DataW H → Nat
  | .lit (.string bytes) => bytes.length + 1
  | .lit _ => 1
  | .nil => 1
  | .ptr d => uptoBulk d + 1
  | .slice elems spare => uptoBulkAll elems + uptoBulkAll spare + 1
  | .agg parts => uptoBulkAll parts + 1
  | .iface _ d => uptoBulk d + 1
  | .map entries => uptoBulkEntries entries + 1
  | .held _ => 1
def uptoBulkAll {H : Type} : List (DataW H) → Nat
  | [] => 0
  | d :: r => uptoBulk d + uptoBulkAll r
def uptoBulkEntries {H : Type} : List (Lit × DataW H) → Nat
  | [] => 0
  | x :: r => uptoBulkEntry x + uptoBulkEntries r
def uptoBulkEntry {H : Type} : Lit × DataW H → Nat
  | (.string bytes, d) => bytes.length + uptoBulk d + 1
  | (_, d) => uptoBulk d + 1
 end
def uptoSmall : (H : Type) → List (DataW H) → Bool := fun _ ds => decide (uptoBulkAll ds ≤ 1048576)
def OpenSpec.upto (s : _root_.Go.ChangeSpec) : _root_.Go.OpenSpec := { _root_.Go.OpenSpec.ofChange s with cond := some uptoSmall }

/-- 'forebaylaw17.BuffersTell', WHERE WHAT IT READS IS OF BULK AT MOST 1048576: true; the input reads as it did. -/
def buffersTellUptoRow : OpenClaim := { program := "ytkjffoebcblpoaagreat", sum := "37df25aa172babcdd8dc87224c0828111bf0ff22e4a482a16d73c0e6f873604b", func := "forebay/forebaylaw17.BuffersTell", spec := "buffersTell", inPlace := ["internal/bytealg.abigen_runtime_cmpstring", "slices.overlaps[int64]"], unfollowed := true, recurses := true, apart := false, narrowed := true }
def BuffersTellUptoSaid : Prop := buffersTellUptoRow.holds Tryz.pinned (OpenSpec.upto buffersTellSpec)

/-- 'forebaylaw17.BuffersBack', WHERE WHAT IT READS IS OF BULK AT MOST 1048576: true; the input reads as it did. -/
def buffersBackUptoRow : OpenClaim := { program := "ytkjffoebcblpoaagreat", sum := "37df25aa172babcdd8dc87224c0828111bf0ff22e4a482a16d73c0e6f873604b", func := "forebay/forebaylaw17.BuffersBack", spec := "buffersBack", inPlace := ["internal/bytealg.abigen_runtime_cmpstring", "slices.overlaps[int64]"], unfollowed := true, recurses := true, apart := false, narrowed := true }
def BuffersBackUptoSaid : Prop := buffersBackUptoRow.holds Tryz.pinned (OpenSpec.upto buffersBackSpec)

/-- 'forebaylaw17.BuffersOwn', WHERE WHAT IT READS IS OF BULK AT MOST 1048576: true; the input reads as it did. -/
def buffersOwnUptoRow : OpenClaim := { program := "ytkjffoebcblpoaagreat", sum := "37df25aa172babcdd8dc87224c0828111bf0ff22e4a482a16d73c0e6f873604b", func := "forebay/forebaylaw17.BuffersOwn", spec := "buffersOwn", inPlace := ["internal/bytealg.abigen_runtime_cmpstring", "slices.overlaps[int64]"], unfollowed := true, recurses := true, apart := false, narrowed := true }
def BuffersOwnUptoSaid : Prop := buffersOwnUptoRow.holds Tryz.pinned (OpenSpec.upto buffersOwnSpec)

/-- 'forebaylaw17.BuffersApart', WHERE WHAT IT READS IS OF BULK AT MOST 1048576: true; the input reads as it did. -/
def buffersApartUptoRow : OpenClaim := { program := "ytkjffoebcblpoaagreat", sum := "37df25aa172babcdd8dc87224c0828111bf0ff22e4a482a16d73c0e6f873604b", func := "forebay/forebaylaw17.BuffersApart", spec := "buffersApart", inPlace := ["internal/bytealg.abigen_runtime_cmpstring", "slices.overlaps[int64]"], unfollowed := true, recurses := true, apart := false, narrowed := true }
def BuffersApartUptoSaid : Prop := buffersApartUptoRow.holds Tryz.pinned (OpenSpec.upto buffersApartSpec)

end Rows
end Go.Proofs.YtkjffoebcblpoaaGreat
