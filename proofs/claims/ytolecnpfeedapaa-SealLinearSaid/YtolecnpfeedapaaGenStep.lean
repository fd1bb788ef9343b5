/- For any seat: one byte appended, as a step of a region that draws its order. -/
import Derived.Test.YtolecnpfeedapaaGen
import Derived.Deep.AppendLies
import Derived.Deep.RegionLaw
namespace Go.Proofs.Ytolecnpfeedapaa.gn
open Go.RowKit

theorem step_append_bs {ops : Array Oper} {o : Oper} {a : Act} {w : World} {K : Act → World → Prop} {Q : Exit → Act → World → Prop} {E : Prop} (hgd : o.guard = none) (s x : Operand)
    (ho : o.op = .call { callee := .builtin .append, args := #[s, x], argTypes := #[32, 32] })
    (B : Nat) (v : Value) (l : List UInt8) (hs : a.eval s = v) (hown : Bs w B v l)
    (ad : Addr) (c : Nat) (hx : a.eval x = .slice (some ad) 1 c) (b : UInt8) (hc : w.cell? ad = some (.int .u8 (b.toNat : Int)))
    (hlim : l.length + 1 ≤ 140737488355328) (hB : B ≤ w.heap.size)
    (hK : ∀ v' w', Bs w' B v' (l ++ [b]) → Below B w w' → K (a.put o.dst v') w') :
    if Region.wanted o (yielded ops a.tmps) = true then Oper.wp Try.prog o a w K Q else E := by
  obtain ⟨i0, hi0, hz0, hz1, hz2⟩ := info_parts Try.info5
  have hlt := hown.lt
  refine step_append_lies w hgd s x 32 ho B 5 i0 (.int .u8 0) 1 1 Try.underlying32 hi0 hz0 hz1 hz2 rfl (by decide) v l.length (Lib.byteCells l) hs hown ad 1 c [.int .u8 (b.toNat : Int)] hx rfl ?_ ?_ (by decide) (by unfold maxLen; omega) (by omega) hB _ rfl ?_
  · intro j u hj
    match j, hj with
    | 0, hj =>
      have hadd : ad.add 0 = ad := by simp [Addr.add]
      simp at hj; subst hj; rw [hadd]; exact hc
    | j + 1, hj => simp at hj
  · intro u hu; simp at hu; subst hu; rfl
  · intro g cap w' ho' hgb _ _
    refine hK _ w' ?_ ((Below.refl B w).grown hgb hB (fun k hk => (hlt k hk).1))
    unfold Bs
    rw [List.length_append]
    simpa [Lib.byteCells] using ho'
end Go.Proofs.Ytolecnpfeedapaa.gn
