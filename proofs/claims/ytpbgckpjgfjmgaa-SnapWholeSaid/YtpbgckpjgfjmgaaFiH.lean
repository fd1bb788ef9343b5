/- The contracts of the operations' closures, over a table: an append, one that is shortened, a cut. -/
import Derived.Test.YtpbgckpjgfjmgaaFiG
set_option linter.unusedVariables false
namespace Go.Proofs.Ytpbgckpjgfjmgaa.gn
open Go.RowKit
open Go.Proofs.Ytpbgckpjgfjmgaa.fi

theorem Goes.pre {X : Nat → Prop} {TT : Nat → Option Tb} {b : Nat} {T : Tb} {w w0 w' : World} {e : Ending} (hb : Below w.heap.size w w0) (h : Goes X TT b T w0 e w') : Goes X TT b T w e w' :=
  ⟨h.1, h.2.1.more fun i hi => by
    rcases hi with hi | ⟨h1, h2⟩
    · exact .inl hi
    · have := hb.size
      exact .inr ⟨by omega, h2⟩, (OnlyT.of_below hb).trans_old h.2.2⟩

set_option maxHeartbeats 4000000 in
theorem app1_any (w : World) (X : Nat → Prop) (TT : Nat → Option Tb) (b : Nat) (T : Tb) (hS : SysT w X TT) (hT : TT b = some T) (bn bs : Nat) (n : Nm) (s : List UInt8) (hb : BoxS w bn n) (hb2 : BoxS w bs s) (hk : n.length ≤ maxLen) (hl : wt T + s.length ≤ 1099511627776) :
    Calls Try.prog 33 #[.map (some b), .pointer (some ⟨bn, 0, none⟩), .pointer (some ⟨bs, 0, none⟩)] w (Goes X TT b (doOp (.app n s) T) w) := by
  have hc := cell_of_one hb
  have H := Lib.hid (change1_any 35 (.pointer (some ⟨bs, 0, none⟩)) (fun _ _ => by kernel_rfl) w X TT b T n hS hT hk (addF s) (fun f hf => by simp [addF, hf]) (fun G f p A m c h hd => by
    have h1 := wt_get h.is
    have h2 := h.byt.1
    have h3 := app11_any w X G TT b T n f p A m c h bs s hb2 (by omega)
    have h4 : addF s f = (f.1 ++ s, f.2) := by simp [addF, hd]
    rw [h4]
    exact h3))
  clear hb hb2 hS
  go_enter Try.func33, Try.ntmps33
  go_wp2_with (go_at_call 34; ((with_reducible refine H.out.mono ?_); rintro e w1 ⟨rfl, h1, h2⟩))
  go_end0
  exact ⟨rfl, h1, h2⟩

set_option maxHeartbeats 4000000 in
theorem app2_any (w : World) (X : Nat → Prop) (TT : Nat → Option Tb) (b : Nat) (T : Tb) (hS : SysT w X TT) (hT : TT b = some T) (m : Int) (bn bs : Nat) (n : Nm) (s : List UInt8) (hb : BoxS w bn n) (hb2 : BoxS w bs s) (hk : n.length ≤ maxLen) (hl : wt T + s.length ≤ 1099511627776) :
    Calls Try.prog 36 #[.map (some b), .int .i64 m, .pointer (some ⟨bn, 0, none⟩), .pointer (some ⟨bs, 0, none⟩)] w (Goes X TT b (short n s m T) w) := by
  have hc := cell_of_one hb
  have hbel : Below w.heap.size w (w.alloc (.cells #[.int .i64 m] 3)) := (Below.refl _ w).alloc (Nat.le_refl _) _
  have hbi : BoxI (w.alloc (.cells #[.int .i64 m] 3)) w.heap.size m := heap_alloc_new w _
  have hb3 : BoxS (w.alloc (.cells #[.int .i64 m] 3)) bs s := (hbel.block bs (lt_of_block hb2)).trans hb2
  have hc3 : (w.alloc (.cells #[.int .i64 m] 3)).cell? ⟨bn, 0, none⟩ = some (.string (str n)) := hbel.cell (p := ⟨bn, 0, none⟩) (lt_of_block hb) ▸ hc
  have H := Lib.hid (change2_any 37 (.pointer (some ⟨bs, 0, none⟩)) (.pointer (some ⟨w.heap.size, 0, none⟩)) (fun _ _ => by kernel_rfl) _ X TT b T n (hS.below hbel) hT hk (shortF (s.take m.toNat)) (fun f hf => by simp [shortF, hf]) (fun G f p A n' c h hd => by
    have h1 := wt_get h.is
    have h2 := h.byt.1
    have h3 := app21_any _ X G TT b T n f p A n' c h bs s hb3 w.heap.size m hbi (by omega)
    have h4 : shortF (s.take m.toNat) f = (f.1 ++ s.take m.toNat, true) := by simp [shortF, hd]
    rw [h4]
    exact h3))
  have HB := Lib.hid hbel
  clear hb hb2 hb3 hbi hS hc hbel
  go_enter Try.func36, Try.ntmps36
  go_wp2_with (go_at_call 34; ((with_reducible refine H.out.mono ?_); rintro e w1 ⟨rfl, h1, h2⟩))
  go_end0
  exact Goes.pre HB.out ⟨rfl, h1, h2⟩

end Go.Proofs.Ytpbgckpjgfjmgaa.gn
