/- Slips in memory: values, rows; the reader; fail, must, within, number. -/
import Derived.Test.YtekcjfdllclphaaGreatDoorMSlR
import Derived.Test.YtekcjfdllclphaaGreatDoorMGenRow
import Derived.Test.YtekcjfdllclphaaGreatDoorMGenTail
import Derived.RangeFuncNested
section
set_option linter.unusedVariables false
namespace Go.Proofs.YtekcjfdllclphaaGreatDoor.gn
open Go.RowKit
open Go.Proofs.YtekcjfdllclphaaGreatDoor.un
open Go.Proofs.YtekcjfdllclphaaGreatDoor.di
open Go.Proofs.YtekcjfdllclphaaGreatDoor.sp (Slip cuts cutB within? dep? fput frun first? userK nodesK wallK qosK afterK okW anyW jobW pput pline pread chkS Ok shortP soundP waitsP storedP apartP dirsP dropD useD capD innD outD txtS line1 dirsS sread)

/-! ### rows, flat -/
theorem flat_len {α : Type} (f : α → List Value) (k : Nat) (hk : ∀ x, (f x).length = k) : ∀ l : List α, (l.flatMap f).length = l.length * k
  | [] => by simp
  | x :: l => by
    rw [List.flatMap_cons, List.length_append, hk, flat_len f k hk l, List.length_cons, Nat.add_mul]
    omega
theorem flat_at {α : Type} (f : α → List Value) (k : Nat) (hk : ∀ x, (f x).length = k) : ∀ (l : List α) (i j : Nat) (x : α), l[i]? = some x → j < k → (l.flatMap f)[i * k + j]? = (f x)[j]?
  | [], i, j, x, h, _ => by cases h
  | y :: l, 0, j, x, h, hj => by
    cases h
    rw [List.flatMap_cons, Nat.zero_mul, Nat.zero_add, List.getElem?_append_left (by rw [hk]; exact hj)]
  | y :: l, i + 1, j, x, h, hj => by
    have e : (i + 1) * k + j = k + (i * k + j) := by rw [Nat.add_mul]; omega
    rw [List.flatMap_cons, e, List.getElem?_append_right (by rw [hk]; omega), hk, Nat.add_sub_cancel_left]
    exact flat_at f k hk l i j x h hj
abbrev Dep := Int × Bool
def cA (d : Dep) : List Value := [.int .i64 d.1, .bool d.2]
def cM (d : Dir) : List Value := [.int .u8 (d.kind : Nat), .string (str d.name), .string (str d.pool), .int .i64 d.size, .bool d.opn]
def cS (s : Tx) : List Value := [.string (str s)]
def flA (l : List Dep) : List Value := l.flatMap cA
def flM (l : List Dir) : List Value := l.flatMap cM
def flS (l : List Tx) : List Value := l.flatMap cS
theorem flA_len (l : List Dep) : (flA l).length = l.length * 2 := flat_len cA 2 (fun _ => rfl) l
theorem flM_len (l : List Dir) : (flM l).length = l.length * 5 := flat_len cM 5 (fun _ => rfl) l
theorem flS_len (l : List Tx) : (flS l).length = l.length * 1 := flat_len cS 1 (fun _ => rfl) l
theorem flA_app (a b : List Dep) : flA (a ++ b) = flA a ++ flA b := List.flatMap_append
theorem flM_app (a b : List Dir) : flM (a ++ b) = flM a ++ flM b := List.flatMap_append
theorem flS_app (a b : List Tx) : flS (a ++ b) = flS a ++ flS b := List.flatMap_append
theorem flA_one (l : List Dep) : ∀ u ∈ flA l, u.oneCell' = true := fun u hu => by
  obtain ⟨d, _, h⟩ := List.mem_flatMap.1 hu
  simp only [cA, List.mem_cons, List.not_mem_nil, or_false] at h
  rcases h with rfl | rfl <;> rfl
theorem flM_one (l : List Dir) : ∀ u ∈ flM l, u.oneCell' = true := fun u hu => by
  obtain ⟨d, _, h⟩ := List.mem_flatMap.1 hu
  simp only [cM, List.mem_cons, List.not_mem_nil, or_false] at h
  rcases h with rfl | rfl | rfl | rfl | rfl <;> rfl
theorem flS_one (l : List Tx) : ∀ u ∈ flS l, u.oneCell' = true := fun u hu => by
  obtain ⟨d, _, h⟩ := List.mem_flatMap.1 hu
  simp only [cS, List.mem_cons, List.not_mem_nil, or_false] at h
  subst h; rfl
theorem elt_of {t e : TypeId} {z : Value} {size bytes : Nat} (hu : Tryz.prog.underlying t = some (.slice e)) (hi : (Tryz.prog.info? e).map (fun i => (i.zero, i.size, i.bytes)) = some (some z, size, bytes)) (hz : z.cells.size = size) (h0 : 0 < size) : EltI t e z size bytes := by
  refine ⟨hu, ?_, hz, h0⟩
  cases hj : Tryz.prog.info? e with
  | none => rw [hj] at hi; cases hi
  | some i0 =>
    rw [hj] at hi
    simp only [Option.map_some, Option.some.injEq, Prod.mk.injEq] at hi
    exact ⟨i0, rfl, hi.1, hi.2.1, hi.2.2⟩
theorem eltA : EltI 23 88 (.agg #[.int .i64 0, .bool false]) 2 16 := elt_of Tryz.underlying23 (by kernel_rfl) rfl (by decide)
theorem eltM : EltI 24 80 (.agg #[.int .u8 0, .string ⟨#[]⟩, .string ⟨#[]⟩, .int .i64 0, .bool false]) 5 56 := elt_of Tryz.underlying24 (by kernel_rfl) rfl (by decide)
theorem eltS : EltI 25 9 (.string ⟨#[]⟩) 1 16 := elt_of Tryz.underlying25 (by kernel_rfl) rfl (by decide)

/-! ### slips -/
structure Gh where
  a : Value
  m : Value
  d : Value
  u : Value
def scs (x : Slip) (g : Gh) : Array Value := #[.string (str x.user), .int .i64 x.nodes, .int .i64 x.wall, .int .i64 x.qos, g.a, .int .i64 x.cap, .int .i64 x.inn, .int .i64 x.out, .string (str x.pool), g.m, g.d, g.u]
def rcs (x : Slip) (g : Gh) (line : Int) : Array Value := #[.string (str x.user), .int .i64 x.nodes, .int .i64 x.wall, .int .i64 x.qos, g.a, .int .i64 x.cap, .int .i64 x.inn, .int .i64 x.out, .string (str x.pool), g.m, g.d, g.u, .int .i64 line]
def sV (x : Slip) (g : Gh) : Value := .agg (scs x g)
/-- A slice's length, within its room. -/
def Cp (v : Value) (n : Nat) : Prop := ∃ p c, v = .slice p n c ∧ n ≤ c ∧ c ≤ maxLen
theorem cp_own {w : World} {base : Nat} {e : TypeId} {size : Nat} {v : Value} {n : Nat} {cs : List Value} (h : w.ownsRow base e size v n cs) : Cp v n := by
  rcases h.2 with ⟨rfl, rfl⟩ | ⟨g, cap, cur, rfl, _, _, h1, h2, _⟩
  · exact ⟨_, _, rfl, Nat.le_refl _, Nat.zero_le _⟩
  · exact ⟨_, _, rfl, h1, h2⟩
/-- The rows of a slip, to be read. -/
structure SR (w : World) (x : Slip) (g : Gh) : Prop where
  a : RdC w g.a x.after.length (flA x.after)
  m : RdC w g.m x.make.length (flM x.make)
  d : RdC w g.d x.drop.length (flS x.drop)
  u : RdC w g.u x.use.length (flS x.use)
  ca : Cp g.a x.after.length
  cm : Cp g.m x.make.length
  cd : Cp g.d x.drop.length
  cu : Cp g.u x.use.length
theorem SR.next {w w' : World} {x : Slip} {g : Gh} (h : SR w x g) (hb : Below w.heap.size w w') : SR w' x g := ⟨h.a.next hb, h.m.next hb, h.d.next hb, h.u.next hb, h.ca, h.cm, h.cd, h.cu⟩
/-- The reader at R. -/
structure Rdr (w : World) (R : Nat) (x : Slip) (line : Int) (g : Gh) : Prop where
  box : BoxA w R 107 (rcs x g line)
  a : w.ownsRow (R + 1) 88 2 g.a x.after.length (flA x.after)
  m : w.ownsRow (R + 1) 80 5 g.m x.make.length (flM x.make)
  d : w.ownsRow (R + 1) 9 1 g.d x.drop.length (flS x.drop)
  u : w.ownsRow (R + 1) 9 1 g.u x.use.length (flS x.use)
  du : ∀ b, g.d.ownBlock = some b → g.u.ownBlock ≠ some b
/-- The blocks that it may write. -/
def Mr (R : Nat) (g : Gh) (b : Nat) : Prop := b = R ∨ g.a.ownBlock = some b ∨ g.m.ownBlock = some b ∨ g.d.ownBlock = some b ∨ g.u.ownBlock = some b
section
variable {w w' : World} {R : Nat} {x : Slip} {line : Int} {g : Gh}
theorem own_cells {base : Nat} {e : TypeId} {size : Nat} {v : Value} {n : Nat} {cs : List Value} (h : w.ownsRow base e size v n cs) {b : Nat} (hb : v.ownBlock = some b) : ∃ cur, w.heap[b]? = some (.cells cur e (0, 0)) := by
  rcases h.2 with ⟨rfl, _⟩ | ⟨k, cap, cur, rfl, _, hk, _⟩
  · cases hb
  · cases hb
    exact ⟨_, hk⟩
theorem own_apart {base base' : Nat} {e e' : TypeId} {size size' : Nat} {v v' : Value} {n n' : Nat} {cs cs' : List Value} (h : w.ownsRow base e size v n cs) (h' : w.ownsRow base' e' size' v' n' cs') (he : e ≠ e') {b : Nat} (hb : v.ownBlock = some b) : v'.ownBlock ≠ some b := fun hb' => by
  obtain ⟨c1, h1⟩ := own_cells h hb
  obtain ⟨c2, h2⟩ := own_cells h' hb'
  rw [h1] at h2
  simp only [Option.some.injEq, Obj.cells.injEq] at h2
  exact he h2.2.1
theorem Rdr.lM (h : Rdr w R x line g) {b : Nat} (hb : Mr R g b) : R ≤ b ∧ b < w.heap.size ∧ ∃ o, w.heap[b]? = some o ∧ o.isCells = true := by
  have key : ∀ {e : TypeId} {size : Nat} {v : Value} {n : Nat} {cs : List Value}, w.ownsRow (R + 1) e size v n cs → v.ownBlock = some b → R ≤ b ∧ b < w.heap.size ∧ ∃ o, w.heap[b]? = some o ∧ o.isCells = true := fun ho hv => by
    have := World.ownsRow.lt ho b hv
    obtain ⟨cur, hc⟩ := own_cells ho hv
    exact ⟨by omega, this.2, _, hc, rfl⟩
  rcases hb with rfl | hb | hb | hb | hb
  · exact ⟨Nat.le_refl _, h.box.lt, _, h.box, rfl⟩
  · exact key h.a hb
  · exact key h.m hb
  · exact key h.d hb
  · exact key h.u hb
theorem own_same {base : Nat} {e : TypeId} {size : Nat} {v : Value} {n : Nat} {cs : List Value} (h : w.ownsRow base e size v n cs) (hk : ∀ b, v.ownBlock = some b → w'.heap[b]? = w.heap[b]?) : w'.ownsRow base e size v n cs := by
  refine ⟨h.1, ?_⟩
  rcases h.2 with hn | ⟨k, cap, cur, rfl, hb, hk', r⟩
  · exact .inl hn
  · exact .inr ⟨k, cap, cur, rfl, hb, (hk k rfl).trans hk', r⟩
theorem Rdr.kept (h : Rdr w R x line g) (hk : ∀ b, Mr R g b → w'.heap[b]? = w.heap[b]?) : Rdr w' R x line g :=
  ⟨(hk R (.inl rfl)).trans h.box, own_same h.a fun b hb => hk b (.inr (.inl hb)), own_same h.m fun b hb => hk b (.inr (.inr (.inl hb))), own_same h.d fun b hb => hk b (.inr (.inr (.inr (.inl hb)))), own_same h.u fun b hb => hk b (.inr (.inr (.inr (.inr hb)))), h.du⟩
theorem Rdr.next (h : Rdr w R x line g) (hb : Below w.heap.size w w') : Rdr w' R x line g := h.kept fun b hm => hb.block b (h.lM hm).2.1
theorem Rdr.sr (h : Rdr w R x line g) : SR w x g := ⟨(ApC.rdc (.inr h.a)), (ApC.rdc (.inr h.m)), (ApC.rdc (.inr h.d)), (ApC.rdc (.inr h.u)), cp_own h.a, cp_own h.m, cp_own h.d, cp_own h.u⟩
/-- What a step of the reader leaves. -/
structure Kp (R : Nat) (g g' : Gh) (w w' : World) : Prop where
  low : Below R w w'
  same : ∀ b, b < w.heap.size → ¬ Mr R g b → w'.heap[b]? = w.heap[b]?
  mv : ∀ b, Mr R g' b → Mr R g b ∨ w.heap.size ≤ b
theorem Kp.refl (R : Nat) (g : Gh) (w : World) : Kp R g g w w := ⟨Below.refl _ _, fun _ _ _ => rfl, fun _ h => .inl h⟩
theorem Kp.of (g : Gh) (hb : Below w.heap.size w w') (hR : R ≤ w.heap.size) : Kp R g g w w' := ⟨hb.mono hR, fun b hl _ => hb.block b hl, fun _ h => .inl h⟩
theorem Kp.trans {g1 g2 g3 : Gh} {a b c : World} (h : Kp R g1 g2 a b) (k : Kp R g2 g3 b c) : Kp R g1 g3 a c := by
  refine ⟨h.low.trans k.low, fun i hi hm => ?_, fun i hm => ?_⟩
  · refine (k.same i (Nat.lt_of_lt_of_le hi h.low.size) fun hm2 => ?_).trans (h.same i hi hm)
    rcases h.mv i hm2 with h1 | h1
    · exact hm h1
    · omega
  · rcases k.mv i hm with h1 | h1
    · exact h.mv i h1
    · exact .inr (Nat.le_trans h.low.size h1)
theorem Kp.off {g1 g2 : Gh} (h : Kp R g1 g2 w w') {b : Nat} (hb : b < w.heap.size) (hm : ¬ Mr R g1 b) : ¬ Mr R g2 b := fun h2 => (h.mv b h2).elim hm (fun h3 => by omega)
/-- What a step leaves that fails. -/
def Lk (R : Nat) (g : Gh) (w w' : World) : Prop := Below R w w' ∧ ∀ b, b < w.heap.size → ¬ Mr R g b → w'.heap[b]? = w.heap[b]?
theorem Lk.of (g : Gh) (hb : Below w.heap.size w w') (hR : R ≤ w.heap.size) : Lk R g w w' := ⟨hb.mono hR, fun b hl _ => hb.block b hl⟩
theorem Kp.lk {g1 g2 : Gh} {a b c : World} (h : Kp R g1 g2 a b) (k : Lk R g2 b c) : Lk R g1 a c :=
  ⟨h.low.trans k.1, fun i hi hm => (k.2 i (Nat.lt_of_lt_of_le hi h.low.size) (fun hm2 => (h.mv i hm2).elim hm (fun h1 => by omega))).trans (h.same i hi hm)⟩
theorem Kp.set (g : Gh) (w : World) (R j : Nat) (u : Value) : Kp R g g w (w.setCell ⟨R, j, none⟩ u) :=
  ⟨(Below.refl _ _).setCell (p := ⟨R, j, none⟩) (Nat.le_refl _) u, fun b _ hm => Below.heap_setCell _ _ _ _ (fun e => hm (.inl e)), fun _ h => .inl h⟩
/-- A number or a text of it is stored. -/
theorem Rdr.put (h : Rdr w R x line g) {y : Slip} {l2 : Int} (j : Nat) (u : Value) (hc : (rcs x g line).setIfInBounds j u = rcs y g l2) (ha : y.after = x.after) (hm : y.make = x.make) (hd : y.drop = x.drop) (hu : y.use = x.use) : Rdr (w.setCell ⟨R, j, none⟩ u) R y l2 g := by
  have hk : ∀ b, R + 1 ≤ b → (w.setCell ⟨R, j, none⟩ u).heap[b]? = w.heap[b]? := fun b hb => Below.heap_setCell _ _ _ _ (by simp only; omega)
  refine ⟨?_, own_same (by rw [ha]; exact h.a) fun b hb => hk b (World.ownsRow.lt h.a b hb).1, own_same (by rw [hm]; exact h.m) fun b hb => hk b (World.ownsRow.lt h.m b hb).1, own_same (by rw [hd]; exact h.d) fun b hb => hk b (World.ownsRow.lt h.d b hb).1, own_same (by rw [hu]; exact h.u) fun b hb => hk b (World.ownsRow.lt h.u b hb).1, h.du⟩
  rw [← hc]
  exact h.box.set j u
end

/-! ### fail, must, within, number -/
def spV (e line : Int) : Value := .iface 32 (.agg #[.int .i64 e, .int .i64 line])
def pnc (e line : Int) : List PanicEntry := [{ v := spV e line, recovered := false }]
def Pan (e line : Int) (w : World) (en : Ending) (w' : World) : Prop := en = .panicked (pnc e line) ∧ Below w.heap.size w w'

theorem fail_any {w : World} {R : Nat} {x : Slip} {line : Int} {g : Gh} (h : Rdr w R x line g) (e : Int) : Calls Tryz.prog 111 #[.pointer (some ⟨R, 0, none⟩), .int .i64 e] w fun en w' => en = .panicked (pnc e line) ∧ w = w' := by
  have c12 : w.cell? ⟨R, 12, none⟩ = some (.int .i64 line) := h.box.cell 12 _
  have hlt := h.box.lt
  clear h
  go_enter Tryz.func111, Tryz.ntmps111
  go_wp2
  exact ⟨rfl, rfl, rfl⟩
theorem must_any {w : World} {R : Nat} {x : Slip} {line : Int} {g : Gh} (h : Rdr w R x line g) (b : Bool) : Calls Tryz.prog 70 #[.pointer (some ⟨R, 0, none⟩), .bool b] w fun en w' => en = (if b = true then .returned (.tuple #[]) else .panicked (pnc 150 line)) ∧ w = w' := by
  have HF := Lib.hid (fail_any h 150)
  clear h
  cases b with
  | true =>
    go_enter Tryz.func70, Tryz.ntmps70
    go_wp2
    go_end0
    exact ⟨rfl, rfl⟩
  | false =>
    go_enter Tryz.func70, Tryz.ntmps70
    go_wp2_with (go_at_call 111; ((with_reducible refine HF.out.mono ?_); rintro e w' ⟨rfl, rfl⟩))
    exact ⟨rfl, rfl, rfl⟩
theorem must_yes {w : World} {R : Nat} {x : Slip} {line : Int} {g : Gh} (h : Rdr w R x line g) : Calls Tryz.prog 70 #[.pointer (some ⟨R, 0, none⟩), .bool true] w fun en w' => en = .returned (.tuple #[]) ∧ w = w' := must_any h true
theorem must_no {w : World} {R : Nat} {x : Slip} {line : Int} {g : Gh} (h : Rdr w R x line g) : Calls Tryz.prog 70 #[.pointer (some ⟨R, 0, none⟩), .bool false] w fun en w' => en = .panicked (pnc 150 line) ∧ w = w' := must_any h false
theorem within_any_s (n a b : Int) (w : World) : Calls Tryz.prog 99 #[.int .i64 n, .int .i64 a, .int .i64 b] w fun en w' => en = .returned (.bool (decide (a ≤ n) && decide (n ≤ b))) ∧ w = w' := by
  by_cases h : a ≤ n
  · have hd : decide (a ≤ n) = true := decide_eq_true h
    rw [hd]
    go_enter Tryz.func99, Tryz.ntmps99
    go_wp2
    go_ret
    exact ⟨rfl, rfl⟩
  · have hd : decide (a ≤ n) = false := decide_eq_false h
    rw [hd]
    go_enter Tryz.func99, Tryz.ntmps99
    go_wp2
    go_ret
    exact ⟨rfl, rfl⟩
theorem within_at {n a b : Int} {t : Bool} (h : (decide (a ≤ n) && decide (n ≤ b)) = t) (w : World) : Calls Tryz.prog 99 #[.int .i64 n, .int .i64 a, .int .i64 b] w fun en w' => en = .returned (.bool t) ∧ w = w' := by
  subst h
  exact within_any_s n a b w
/-- What a method of the reader answers that may fail. -/
def NumT (o : Option Nat) (line : Int) (w : World) (en : Ending) (w' : World) : Prop := match o with
  | some n => en = .returned (.int .i64 (n : Int)) ∧ Below w.heap.size w w'
  | none => en = .panicked (pnc 150 line) ∧ Below w.heap.size w w'
set_option maxRecDepth 100000 in
theorem number_any {w : World} {R : Nat} {x : Slip} {line : Int} {g : Gh} (h : Rdr w R x line g) (v : Tx) (hv : v.length ≤ 140737488355328) (a b : Nat) (hL : LaidU w) :
    Calls Tryz.prog 154 #[.pointer (some ⟨R, 0, none⟩), .string (str v), .int .i64 (a : Int), .int .i64 (b : Int)] w (NumT (within? v a b) line w) := by
  have HN := Lib.hid (number_unit v hv w hL)
  have HR := Lib.hid fun (W : World) (hb : Below w.heap.size w W) => must_yes (h.next hb)
  have HX := Lib.hid fun (W : World) (hb : Below w.heap.size w W) => must_no (h.next hb)
  clear h hL hv
  cases hn : num? v with
  | none =>
    have HW := Lib.hid (show within? v a b = none by unfold within?; rw [hn])
    rw [hn] at HN
    clear hn
    go_enter Tryz.func154, Tryz.ntmps154
    go_wp2_with (first
      | (go_at_call 114; ((with_reducible refine HN.out.mono ?_); rintro e w1 ⟨rfl, hb⟩); rw [qv_none, qe_none]; have HB := Lib.hid hb; clear hb)
      | (go_at_call 70; ((with_reducible refine (HX.out _ HB.out).mono ?_); rintro e w2 ⟨rfl, rfl⟩)))
    refine ⟨rfl, ?_⟩
    rw [HW.out]
    exact ⟨rfl, HB.out⟩
  | some n =>
    rw [hn] at HN
    by_cases ha : a ≤ n
    · have hd : decide ((a : Int) ≤ (n : Int)) = true := decide_eq_true (by omega)
      by_cases hb2 : n ≤ b
      · have hd2 : decide ((n : Int) ≤ (b : Int)) = true := decide_eq_true (by omega)
        have HI := Lib.hid (within_at (show (decide ((a : Int) ≤ (n : Int)) && decide ((n : Int) ≤ (b : Int))) = true by rw [hd, hd2]; rfl))
        have HW := Lib.hid (show within? v a b = some n by unfold within?; rw [hn]; dsimp only; rw [if_pos ⟨ha, hb2⟩])
        clear hn ha hb2 hd hd2
        go_enter Tryz.func154, Tryz.ntmps154
        go_wp2_with (first
          | (go_at_call 114; ((with_reducible refine HN.out.mono ?_); rintro e w1 ⟨rfl, hb⟩); rw [qv_some, qe_some]; have HB := Lib.hid hb; clear hb)
          | (go_at_call 99; ((with_reducible refine (HI.out _).mono ?_); rintro e w2 ⟨rfl, rfl⟩))
          | (go_at_call 70; ((with_reducible refine (HR.out _ HB.out).mono ?_); rintro e w2 ⟨rfl, rfl⟩)))
        go_ret
        unfold NumT
        rw [HW.out]
        exact ⟨rfl, HB.out⟩
      · have hd2 : decide ((n : Int) ≤ (b : Int)) = false := decide_eq_false (by omega)
        have HI := Lib.hid (within_at (show (decide ((a : Int) ≤ (n : Int)) && decide ((n : Int) ≤ (b : Int))) = false by rw [hd, hd2]; rfl))
        have HW := Lib.hid (show within? v a b = none by unfold within?; rw [hn]; dsimp only; rw [if_neg (fun h => hb2 h.2)])
        clear hn ha hb2 hd hd2
        go_enter Tryz.func154, Tryz.ntmps154
        go_wp2_with (first
          | (go_at_call 114; ((with_reducible refine HN.out.mono ?_); rintro e w1 ⟨rfl, hb⟩); rw [qv_some, qe_some]; have HB := Lib.hid hb; clear hb)
          | (go_at_call 99; ((with_reducible refine (HI.out _).mono ?_); rintro e w2 ⟨rfl, rfl⟩))
          | (go_at_call 70; ((with_reducible refine (HX.out _ HB.out).mono ?_); rintro e w2 ⟨rfl, rfl⟩)))
        refine ⟨rfl, ?_⟩
        rw [HW.out]
        exact ⟨rfl, HB.out⟩
    · have hd : decide ((a : Int) ≤ (n : Int)) = false := decide_eq_false (by omega)
      have HI := Lib.hid (within_at (show (decide ((a : Int) ≤ (n : Int)) && decide ((n : Int) ≤ (b : Int))) = false by rw [hd]; rfl))
      have HW := Lib.hid (show within? v a b = none by unfold within?; rw [hn]; dsimp only; rw [if_neg (fun h => ha h.1)])
      clear hn ha hd
      go_enter Tryz.func154, Tryz.ntmps154
      go_wp2_with (first
        | (go_at_call 114; ((with_reducible refine HN.out.mono ?_); rintro e w1 ⟨rfl, hb⟩); rw [qv_some, qe_some]; have HB := Lib.hid hb; clear hb)
        | (go_at_call 99; ((with_reducible refine (HI.out _).mono ?_); rintro e w2 ⟨rfl, rfl⟩))
        | (go_at_call 70; ((with_reducible refine (HX.out _ HB.out).mono ?_); rintro e w2 ⟨rfl, rfl⟩)))
      refine ⟨rfl, ?_⟩
      rw [HW.out]
      exact ⟨rfl, HB.out⟩

/-- What a field's storing does. -/
def StoT2 (R : Nat) (g : Gh) (o : Option Slip) (line : Int) (w : World) (en : Ending) (w' : World) : Prop := match o with
  | some y => en = .returned (.tuple #[]) ∧ ∃ g', Rdr w' R y line g' ∧ Kp R g g' w w'
  | none => en = .panicked (pnc 150 line) ∧ Lk R g w w'
set_option maxRecDepth 100000 in
theorem user_any {w : World} {R : Nat} {x : Slip} {line : Int} {g : Gh} (h : Rdr w R x line g) (v : Tx) (hv : v.length ≤ 140737488355328) :
    Calls Tryz.prog 131 #[.pointer (some ⟨R, 0, none⟩), .string (str v)] w (StoT2 R g (some { x with user := v }) line w) := by
  have HR := Lib.hid h
  have hz : (str v).size ≤ 281474976710656 := by rw [str_size]; omega
  clear h hv
  go_enter Tryz.func131, Tryz.ntmps131
  go_wp2_with (go_at_call 117; ((with_reducible refine (clone_any _ _ hz).mono ?_); rintro e w1 ⟨rfl, hb⟩); have HB := Lib.hid hb; have c0 := (HR.out.next hb).box.cell 0 _; have f0 := (HR.out.next hb).box.free 0; have l0 := (HR.out.next hb).box.lt; clear hb)
  go_end0
  have h1 := HR.out.next HB.out
  exact ⟨rfl, g, h1.put 0 _ rfl rfl rfl rfl rfl, (Kp.of g HB.out (Nat.le_of_lt HR.out.box.lt)).trans (Kp.set g _ R 0 _)⟩
end Go.Proofs.YtekcjfdllclphaaGreatDoor.gn
end
