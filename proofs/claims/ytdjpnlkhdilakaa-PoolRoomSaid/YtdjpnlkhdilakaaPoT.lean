/- The laws' Asked in its box; great; Return of what is free (written by gen_poT.py). -/
import Derived.Test.YtdjpnlkhdilakaaPoS
set_option linter.unusedVariables false
set_option linter.unusedSimpArgs false
set_option maxRecDepth 100000
namespace Go.Proofs.Ytdjpnlkhdilakaa.gn
open Go.RowKit Go.Shelf Go.Sort Go.Lib
open Go.Proofs.Ytdjpnlkhdilakaa.ex
open Go.Proofs.Ytdjpnlkhdilakaa.po (Nm U less Pl)

attribute [local go_sem] Oper.semAt_some
attribute [local go_sem ↓] Go.wp_at_zero Go.wp_at_succ

structure AB (W : World) (B : Nat) (p : Pl) (vf vu : Value) (s : ByteArray) (n : Int) (vl : Value) : Prop where
  pb : PB W B p vf vu
  k0 : W.cell? ⟨B, 0, none⟩ = some (.int .i64 p.size)
  k1 : W.cell? ⟨B, 1, none⟩ = some (.int .i64 p.grain)
  k2 : W.cell? ⟨B, 2, none⟩ = some (.int .i64 p.quota)
  k3 : W.cell? ⟨B, 3, none⟩ = some (.bool p.drain)
  k4 : W.cell? ⟨B, 4, none⟩ = some (.bool p.best)
  k5 : W.cell? ⟨B, 5, none⟩ = some vf
  k6 : W.cell? ⟨B, 6, none⟩ = some vu
  k7 : W.cell? ⟨B, 7, none⟩ = some (.string s)
  k8 : W.cell? ⟨B, 8, none⟩ = some (.int .i64 n)
  k9 : W.cell? ⟨B, 9, none⟩ = some vl
theorem AB.lt {W : World} {B : Nat} {p : Pl} {vf vu : Value} {s : ByteArray} {n : Int} {vl : Value} (h : AB W B p vf vu s n vl) : B < W.heap.size := h.pb.lt
/-- What a law is asked, in its box. -/
structure AX (W : World) (B : Nat) (p : Pl) (vf vu : Value) (s : ByteArray) (n : Int) (vl : Value) (l : List X) : Prop where
  pb : AB W B p vf vu s n vl
  hf : Rd W vf p.free
  hu : RdU W vu p.uses
  hl : Rd W vl l
theorem AB.next {W W' : World} {B : Nat} {p : Pl} {vf vu : Value} {s : ByteArray} {n : Int} {vl : Value} (h : AB W B p vf vu s n vl) (hb : RowKit.Below W.heap.size W W') : AB W' B p vf vu s n vl := by
  have hl := h.lt
  have c : ∀ k, W'.cell? ⟨B, k, none⟩ = W.cell? ⟨B, k, none⟩ := fun k => hb.cell (p := ⟨B, k, none⟩) hl
  exact ⟨h.pb.next hb, (c 0).trans h.k0, (c 1).trans h.k1, (c 2).trans h.k2, (c 3).trans h.k3, (c 4).trans h.k4, (c 5).trans h.k5, (c 6).trans h.k6, (c 7).trans h.k7, (c 8).trans h.k8, (c 9).trans h.k9⟩
theorem AX.next {W W' : World} {B : Nat} {p : Pl} {vf vu : Value} {s : ByteArray} {n : Int} {vl : Value} {l : List X} (h : AX W B p vf vu s n vl l) (hb : RowKit.Below W.heap.size W W') : AX W' B p vf vu s n vl l := ⟨h.pb.next hb, h.hf.next hb, h.hu.next hb, h.hl.next hb⟩
abbrev cellsA (p : Pl) (vf vu : Value) (s : ByteArray) (n : Int) (vl : Value) : Array Value := #[.int .i64 p.size, .int .i64 p.grain, .int .i64 p.quota, .bool p.drain, .bool p.best, vf, vu, .string s, .int .i64 n, vl]
theorem AB.new (w : World) (p : Pl) (vf vu : Value) (s : ByteArray) (n : Int) (vl : Value) : AB (w.alloc (.cells (cellsA p vf vu s n vl) 27)) w.heap.size p vf vu s n vl := by
  have hh := World.alloc_heap_new w (.cells (cellsA p vf vu s n vl) 27)
  have c : ∀ k v, (cellsA p vf vu s n vl)[k]? = some v → (w.alloc (.cells (cellsA p vf vu s n vl) 27)).cell? ⟨w.heap.size, k, none⟩ = some v := fun k v hv => (cell_of_row _ _ k _ _ (0, 0) hh).trans hv
  exact ⟨⟨c 0 _ rfl, c 1 _ rfl, c 2 _ rfl, c 3 _ rfl, c 4 _ rfl, c 5 _ rfl, c 6 _ rfl⟩, c 0 _ rfl, c 1 _ rfl, c 2 _ rfl, c 3 _ rfl, c 4 _ rfl, c 5 _ rfl, c 6 _ rfl, c 7 _ rfl, c 8 _ rfl, c 9 _ rfl⟩
theorem AX.new {w : World} {p : Pl} {vf vu : Value} {l : List X} {vl : Value} (hf : Rd w vf p.free) (hu : RdU w vu p.uses) (hl : Rd w vl l) (s : ByteArray) (n : Int) : AX (w.alloc (.cells (cellsA p vf vu s n vl) 27)) w.heap.size p vf vu s n vl l :=
  have hb := below_box w (.cells (cellsA p vf vu s n vl) 27)
  ⟨AB.new w p vf vu s n vl, hf.next hb, hu.next hb, hl.next hb⟩
theorem AX.w {W : World} {B : Nat} {p : Pl} {vf vu : Value} {s : ByteArray} {n : Int} {vl : Value} {l : List X} (h : AX W B p vf vu s n vl l) (h1 : p.free.length ≤ 1000) (h2 : p.uses.length ≤ 3800) : PolW W (aggP p vf vu) p := ⟨⟨vf, vu, rfl, h.hf, h.hu⟩, h1, h2⟩
theorem AX.v {W : World} {B : Nat} {p : Pl} {vf vu : Value} {s : ByteArray} {n : Int} {vl : Value} {l : List X} (h : AX W B p vf vu s n vl l) : PolV W (aggP p vf vu) p := ⟨vf, vu, rfl, h.hf, h.hu⟩
abbrev aggA (p : Pl) (vf vu : Value) (s : ByteArray) (n : Int) (vl : Value) : Value := .agg #[.int .i64 p.size, .int .i64 p.grain, .int .i64 p.quota, .bool p.drain, .bool p.best, vf, vu, .string s, .int .i64 n, vl]

/-- Is it more than a law looks at? -/
def grB (nf nu nl ns : Nat) : Bool := !decide (nf ≤ 40 ∧ nu ≤ 20 ∧ nl ≤ 40 ∧ ns ≤ 100)
theorem Great_1 (p : Pl) (pf pu : Option Addr) (nf cf nu cu : Nat) (h : 40 < nf) (w : World) : Calls Try.prog 19 #[aggP p (.slice pf nf cf) (.slice pu nu cu)] w (TellsB true w) := by
  have df : decide ((40 : Int) < (nf : Int)) = true := decide_eq_true (by omega)
  have pb := PB.new w p (.slice pf nf cf) (.slice pu nu cu)
  have HB := Lib.hid (below_box w (boxP p (.slice pf nf cf) (.slice pu nu cu)))
  have k5 := pb.k5
  have k6 := pb.k6
  clear pb
  go_enter Try.func19, Try.ntmps19
  go_wp2
  go_ret
  exact ⟨rfl, HB.out⟩
theorem Great_2 (p : Pl) (pf pu : Option Addr) (nf cf nu cu : Nat) (h : ¬ 40 < nf) (h2 : 20 < nu) (w : World) : Calls Try.prog 19 #[aggP p (.slice pf nf cf) (.slice pu nu cu)] w (TellsB true w) := by
  have df : decide ((40 : Int) < (nf : Int)) = false := decide_eq_false (by omega)
  have du : decide ((20 : Int) < (nu : Int)) = true := decide_eq_true (by omega)
  have pb := PB.new w p (.slice pf nf cf) (.slice pu nu cu)
  have HB := Lib.hid (below_box w (boxP p (.slice pf nf cf) (.slice pu nu cu)))
  have k5 := pb.k5
  have k6 := pb.k6
  clear pb
  go_enter Try.func19, Try.ntmps19
  go_wp2
  go_ret
  exact ⟨rfl, HB.out⟩
theorem Great_3 (p : Pl) (pf pu : Option Addr) (nf cf nu cu : Nat) (h : ¬ 40 < nf) (h2 : ¬ 20 < nu) (w : World) : Calls Try.prog 19 #[aggP p (.slice pf nf cf) (.slice pu nu cu)] w (TellsB false w) := by
  have df : decide ((40 : Int) < (nf : Int)) = false := decide_eq_false (by omega)
  have du : decide ((20 : Int) < (nu : Int)) = false := decide_eq_false (by omega)
  have pb := PB.new w p (.slice pf nf cf) (.slice pu nu cu)
  have HB := Lib.hid (below_box w (boxP p (.slice pf nf cf) (.slice pu nu cu)))
  have k5 := pb.k5
  have k6 := pb.k6
  clear pb
  go_enter Try.func19, Try.ntmps19
  go_wp2
  go_ret
  exact ⟨rfl, HB.out⟩
theorem Great_any (p : Pl) (pf pu : Option Addr) (nf cf nu cu : Nat) (w : World) : Calls Try.prog 19 #[aggP p (.slice pf nf cf) (.slice pu nu cu)] w (TellsB (decide (40 < nf ∨ 20 < nu)) w) := by
  by_cases h : 40 < nf
  · rw [decide_eq_true (Or.inl h)]; exact Great_1 p pf pu nf cf nu cu h w
  · by_cases h2 : 20 < nu
    · rw [decide_eq_true (Or.inr h2)]; exact Great_2 p pf pu nf cf nu cu h h2 w
    · rw [decide_eq_false (fun h3 => h3.elim h h2)]; exact Great_3 p pf pu nf cf nu cu h h2 w
theorem great_1 (p : Pl) (pf pu pl : Option Addr) (nf cf nu cu nl cl : Nat) (s : ByteArray) (n : Int) (hd : decide (40 < nf ∨ 20 < nu) = true) (w : World) : Calls Try.prog 6 #[.agg #[.int .i64 p.size, .int .i64 p.grain, .int .i64 p.quota, .bool p.drain, .bool p.best, .slice pf nf cf, .slice pu nu cu, .string s, .int .i64 n, .slice pl nl cl]] w (TellsB true w) := by
  obtain ⟨W, hW⟩ : ∃ W, w.alloc (.cells #[.int .i64 p.size, .int .i64 p.grain, .int .i64 p.quota, .bool p.drain, .bool p.best, .slice pf nf cf, .slice pu nu cu, .string s, .int .i64 n, .slice pl nl cl] 27) = W := ⟨_, rfl⟩
  have ab : AB W w.heap.size p (.slice pf nf cf) (.slice pu nu cu) s n (.slice pl nl cl) := by rw [← hW]; exact AB.new _ _ _ _ _ _ _
  have hb : RowKit.Below w.heap.size w W := by rw [← hW]; exact below_box _ _
  have k0 := ab.k0; have k1 := ab.k1; have k2 := ab.k2; have k3 := ab.k3; have k4 := ab.k4; have k5 := ab.k5; have k6 := ab.k6; have k7 := ab.k7; have k9 := ab.k9
  have hg := Great_any p pf pu nf cf nu cu W
  rw [hd] at hg
  have HB := Lib.hid hb
  have HH := Lib.hid ab
  clear ab hb hd
  go_enter Try.func6, Try.ntmps6
  go_wp2_with (go_at_call 19; refine hg.mono ?_; rintro e w1 ⟨rfl, hb1⟩; have hk := HH.out.next hb1; have j7 := hk.k7; have j9 := hk.k9; have HB1 := Lib.hid (HB.out.trans (hb1.mono HB.out.size)); clear hk hb1)
  go_ret
  exact ⟨rfl, HB1.out⟩
theorem great_2 (p : Pl) (pf pu pl : Option Addr) (nf cf nu cu nl cl : Nat) (s : ByteArray) (n : Int) (hd : decide (40 < nf ∨ 20 < nu) = false) (h : 40 < nl) (w : World) : Calls Try.prog 6 #[.agg #[.int .i64 p.size, .int .i64 p.grain, .int .i64 p.quota, .bool p.drain, .bool p.best, .slice pf nf cf, .slice pu nu cu, .string s, .int .i64 n, .slice pl nl cl]] w (TellsB true w) := by
  have dl : decide ((40 : Int) < (nl : Int)) = true := decide_eq_true (by omega)
  obtain ⟨W, hW⟩ : ∃ W, w.alloc (.cells #[.int .i64 p.size, .int .i64 p.grain, .int .i64 p.quota, .bool p.drain, .bool p.best, .slice pf nf cf, .slice pu nu cu, .string s, .int .i64 n, .slice pl nl cl] 27) = W := ⟨_, rfl⟩
  have ab : AB W w.heap.size p (.slice pf nf cf) (.slice pu nu cu) s n (.slice pl nl cl) := by rw [← hW]; exact AB.new _ _ _ _ _ _ _
  have hb : RowKit.Below w.heap.size w W := by rw [← hW]; exact below_box _ _
  have k0 := ab.k0; have k1 := ab.k1; have k2 := ab.k2; have k3 := ab.k3; have k4 := ab.k4; have k5 := ab.k5; have k6 := ab.k6; have k7 := ab.k7; have k9 := ab.k9
  have hg := Great_any p pf pu nf cf nu cu W
  rw [hd] at hg
  have HB := Lib.hid hb
  have HH := Lib.hid ab
  clear ab hb hd
  go_enter Try.func6, Try.ntmps6
  go_wp2_with (go_at_call 19; refine hg.mono ?_; rintro e w1 ⟨rfl, hb1⟩; have hk := HH.out.next hb1; have j7 := hk.k7; have j9 := hk.k9; have HB1 := Lib.hid (HB.out.trans (hb1.mono HB.out.size)); clear hk hb1)
  go_ret
  exact ⟨rfl, HB1.out⟩
theorem great_3 (p : Pl) (pf pu pl : Option Addr) (nf cf nu cu nl cl : Nat) (s : ByteArray) (n : Int) (hd : decide (40 < nf ∨ 20 < nu) = false) (h : ¬ 40 < nl) (h2 : 100 < s.size) (w : World) : Calls Try.prog 6 #[.agg #[.int .i64 p.size, .int .i64 p.grain, .int .i64 p.quota, .bool p.drain, .bool p.best, .slice pf nf cf, .slice pu nu cu, .string s, .int .i64 n, .slice pl nl cl]] w (TellsB true w) := by
  have dl : decide ((40 : Int) < (nl : Int)) = false := decide_eq_false (by omega)
  have ds : decide ((100 : Int) < (s.size : Int)) = true := decide_eq_true (by omega)
  obtain ⟨W, hW⟩ : ∃ W, w.alloc (.cells #[.int .i64 p.size, .int .i64 p.grain, .int .i64 p.quota, .bool p.drain, .bool p.best, .slice pf nf cf, .slice pu nu cu, .string s, .int .i64 n, .slice pl nl cl] 27) = W := ⟨_, rfl⟩
  have ab : AB W w.heap.size p (.slice pf nf cf) (.slice pu nu cu) s n (.slice pl nl cl) := by rw [← hW]; exact AB.new _ _ _ _ _ _ _
  have hb : RowKit.Below w.heap.size w W := by rw [← hW]; exact below_box _ _
  have k0 := ab.k0; have k1 := ab.k1; have k2 := ab.k2; have k3 := ab.k3; have k4 := ab.k4; have k5 := ab.k5; have k6 := ab.k6; have k7 := ab.k7; have k9 := ab.k9
  have hg := Great_any p pf pu nf cf nu cu W
  rw [hd] at hg
  have HB := Lib.hid hb
  have HH := Lib.hid ab
  clear ab hb hd
  go_enter Try.func6, Try.ntmps6
  go_wp2_with (go_at_call 19; refine hg.mono ?_; rintro e w1 ⟨rfl, hb1⟩; have hk := HH.out.next hb1; have j7 := hk.k7; have j9 := hk.k9; have HB1 := Lib.hid (HB.out.trans (hb1.mono HB.out.size)); clear hk hb1)
  go_ret
  exact ⟨rfl, HB1.out⟩
theorem great_4 (p : Pl) (pf pu pl : Option Addr) (nf cf nu cu nl cl : Nat) (s : ByteArray) (n : Int) (hd : decide (40 < nf ∨ 20 < nu) = false) (h : ¬ 40 < nl) (h2 : ¬ 100 < s.size) (w : World) : Calls Try.prog 6 #[.agg #[.int .i64 p.size, .int .i64 p.grain, .int .i64 p.quota, .bool p.drain, .bool p.best, .slice pf nf cf, .slice pu nu cu, .string s, .int .i64 n, .slice pl nl cl]] w (TellsB false w) := by
  have dl : decide ((40 : Int) < (nl : Int)) = false := decide_eq_false (by omega)
  have ds : decide ((100 : Int) < (s.size : Int)) = false := decide_eq_false (by omega)
  obtain ⟨W, hW⟩ : ∃ W, w.alloc (.cells #[.int .i64 p.size, .int .i64 p.grain, .int .i64 p.quota, .bool p.drain, .bool p.best, .slice pf nf cf, .slice pu nu cu, .string s, .int .i64 n, .slice pl nl cl] 27) = W := ⟨_, rfl⟩
  have ab : AB W w.heap.size p (.slice pf nf cf) (.slice pu nu cu) s n (.slice pl nl cl) := by rw [← hW]; exact AB.new _ _ _ _ _ _ _
  have hb : RowKit.Below w.heap.size w W := by rw [← hW]; exact below_box _ _
  have k0 := ab.k0; have k1 := ab.k1; have k2 := ab.k2; have k3 := ab.k3; have k4 := ab.k4; have k5 := ab.k5; have k6 := ab.k6; have k7 := ab.k7; have k9 := ab.k9
  have hg := Great_any p pf pu nf cf nu cu W
  rw [hd] at hg
  have HB := Lib.hid hb
  have HH := Lib.hid ab
  clear ab hb hd
  go_enter Try.func6, Try.ntmps6
  go_wp2_with (go_at_call 19; refine hg.mono ?_; rintro e w1 ⟨rfl, hb1⟩; have hk := HH.out.next hb1; have j7 := hk.k7; have j9 := hk.k9; have HB1 := Lib.hid (HB.out.trans (hb1.mono HB.out.size)); clear hk hb1)
  go_ret
  exact ⟨rfl, HB1.out⟩
theorem great_any (p : Pl) (pf pu pl : Option Addr) (nf cf nu cu nl cl : Nat) (s : ByteArray) (n : Int) (w : World) : Calls Try.prog 6 #[aggA p (.slice pf nf cf) (.slice pu nu cu) s n (.slice pl nl cl)] w (TellsB (grB nf nu nl s.size) w) := by
  unfold grB
  cases hd : decide (40 < nf ∨ 20 < nu) with
  | true =>
    have := of_decide_eq_true hd
    rw [decide_eq_false (fun h => by omega)]
    exact great_1 p pf pu pl nf cf nu cu nl cl s n hd w
  | false =>
    have := of_decide_eq_false hd
    by_cases h : 40 < nl
    · rw [decide_eq_false (fun h => by omega)]
      exact great_2 p pf pu pl nf cf nu cu nl cl s n hd h w
    · by_cases h2 : 100 < s.size
      · rw [decide_eq_false (fun h => by omega)]
        exact great_3 p pf pu pl nf cf nu cu nl cl s n hd h h2 w
      · rw [decide_eq_true (show _ ∧ _ from ⟨by omega, by omega, by omega, by omega⟩)]
        exact great_4 p pf pu pl nf cf nu cu nl cl s n hd h h2 w
/-- What is free is not taken back. -/
theorem Return_bad {p : Pl} {u : Nm} {l : List X} (ha : RAsk p u l) (hap : ¬ Apart (p.free ++ l)) : ∃ c : Int, c ≠ 0 ∧ ∀ {w : World} {v vl : Value}, PolW w v p → Rd w vl l → Calls Try.prog 15 #[v, .string (str u), vl] w (FailsR c w) := by
  by_cases hz : po.lk p.uses u = 0
  · exact ⟨7, by decide, fun h hr => Return_1 h u hr ha hz⟩
  · by_cases ht : po.lk p.uses u < tot l
    · exact ⟨110, by decide, fun h hr => Return_2 h u hr ha hz ht⟩
    · exact ⟨110, by decide, fun h hr => Return_3 h u hr ha hz ht hap⟩
end Go.Proofs.Ytdjpnlkhdilakaa.gn
