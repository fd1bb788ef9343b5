/- The contract of unit.Name: names. -/
import Derived.Test.YtkjffoebcblpoaaGreatMGen
import Derived.Test.YtkjffoebcblpoaaGreatMUnN
import Derived.Lib.OthersKept
import Derived.Laws.RangeAny
import Derived.Deep.LoopGhost
import Derived.RangeFuncNested
import Derived.RangeFuncBound
import Derived.RangeFuncCalls
import Derived.RangeFuncLeaves
import Derived.RangeFuncBox
import Derived.Shelf.Abstract
import Derived.Shelf.RegionOpen
import Derived.WalkKit
import Derived.ProofKit
import Derived.Outline
import Derived.Lib.Hide
import Derived.Lib.MinMax
import Derived.IntWalk
import Derived.OwnWalk
import Derived.OwnWalkIn
import Derived.TacticsInMore
import Derived.LoopNIn
import Derived.LoopIn
import Derived.Below
import Derived.BigQuiet
import Derived.Laws.NewBlocks
import Derived.Deep.QuietTactic
import Derived.OrdersIn
import Derived.Test.YtkjffoebcblpoaaGreatRows
import Derived.Test.YtkjffoebcblpoaaGreatMGenRow
import Derived.Test.YtkjffoebcblpoaaGreatExM
import Derived.Test.YtkjffoebcblpoaaGreatMSvQ
import Derived.Test.YtkjffoebcblpoaaGreatMSvK
import Derived.Maps.RangeWalk
import Derived.Maps.OwnSet
import Derived.Carry
section
set_option linter.unusedVariables false
namespace Go.Proofs.YtkjffoebcblpoaaGreat.gn
open Go.RowKit
open Go.Proofs.YtkjffoebcblpoaaGreat.un

/-- Whether a rune may stand in a name. -/
def win (r : Int) : Bool := decide (97 ≤ r ∧ r ≤ 122) || decide (65 ≤ r ∧ r ≤ 90) || decide (48 ≤ r ∧ r ≤ 57) || decide (r = 95) || decide (r = 45) || decide (r = 46)
theorem win_yes {r : Int} (h : (97 ≤ r ∧ r ≤ 122) ∨ (65 ≤ r ∧ r ≤ 90) ∨ (48 ≤ r ∧ r ≤ 57) ∨ r = 95 ∨ r = 45 ∨ r = 46) : win r = true := by
  unfold win
  simp only [Bool.or_eq_true, decide_eq_true_eq]
  omega
theorem win_no {r : Int} (h : ¬ ((97 ≤ r ∧ r ≤ 122) ∨ (65 ≤ r ∧ r ≤ 90) ∨ (48 ≤ r ∧ r ≤ 57) ∨ r = 95 ∨ r = 45 ∨ r = 46)) : win r = false := by
  cases hw : win r with
  | false => rfl
  | true =>
    unfold win at hw
    simp only [Bool.or_eq_true, decide_eq_true_eq] at hw
    exact absurd (by omega) h
theorem ret_bool {a b : Bool} (h : a = b) : Ending.returned (.bool a) = .returned (.bool b) := by rw [h]

set_option maxRecDepth 100000 in
set_option maxHeartbeats 1600000 in
theorem within_any (r : Int) (w : World) : Calls Tryz.prog 82 #[.int .i32 r] w fun e w' => e = .returned (.bool (win r)) ∧ w = w' := by
  rcases byte_cases r with h | h | h | h | h | h | h | h | h | h | h | h
  case' inl => have hw := win_no (r := r) (by omega)
  case' inr.inl => have hw := win_yes (r := r) (by omega)
  case' inr.inr.inl => have hw := win_yes (r := r) (by omega)
  case' inr.inr.inr.inl => have hw := win_no (r := r) (by omega)
  case' inr.inr.inr.inr.inl => have hw := win_yes (r := r) (by omega)
  case' inr.inr.inr.inr.inr.inl => have hw := win_no (r := r) (by omega)
  case' inr.inr.inr.inr.inr.inr.inl => have hw := win_yes (r := r) (by omega)
  case' inr.inr.inr.inr.inr.inr.inr.inl => have hw := win_no (r := r) (by omega)
  case' inr.inr.inr.inr.inr.inr.inr.inr.inl => have hw := win_yes (r := r) (by omega)
  case' inr.inr.inr.inr.inr.inr.inr.inr.inr.inl => have hw := win_no (r := r) (by omega)
  case' inr.inr.inr.inr.inr.inr.inr.inr.inr.inr.inl => have hw := win_yes (r := r) (by omega)
  case' inr.inr.inr.inr.inr.inr.inr.inr.inr.inr.inr => have hw := win_no (r := r) (by omega)
  all_goals
    rw [hw]
    clear hw
    try subst h
    try obtain ⟨h1, h2⟩ := h
    try have e95 : (r == 95) = false := by rw [beq_eq_false_iff_ne]; omega
    try have e45 : (r == 45) = false := by rw [beq_eq_false_iff_ne]; omega
    try have e46 : (r == 46) = false := by rw [beq_eq_false_iff_ne]; omega
    go_enter Tryz.func82, Tryz.ntmps82
    go_wp2
    go_ret
    exact ⟨rfl, rfl⟩

/-- What a byte that is ASCII is, and another one. -/
theorem nm_win {i : Nat} {b : UInt8} : nmAt i b = (win (b.toNat : Int) && !(decide (i = 0) && (decide (b.toNat = 45) || decide (b.toNat = 46)))) := by
  rw [Bool.eq_iff_iff]
  unfold nmAt wordb win
  simp only [Bool.or_eq_true, Bool.and_eq_true, Bool.not_eq_true', Bool.and_eq_false_iff, Bool.or_eq_false_iff, decide_eq_true_eq, decide_eq_false_iff_not]
  omega
theorem get_str (l : List UInt8) (pos : Nat) (h : pos < (str l).size) : ((str l)[pos]'h).toNat = (l[pos]'(by rw [str_size] at h; exact h)).toNat := by rw [str_at]

set_option maxRecDepth 100000 in
set_option maxHeartbeats 3200000 in
theorem name_any (l : List UInt8) (hl : l.length ≤ 140737488355328) (w : World) : Calls Tryz.prog 58 #[.string (str l)] w fun e w' => e = .returned (.bool (isName l)) ∧ Below w.heap.size w w' := by
  have hz := str_size l
  by_cases h0 : l.length = 0
  · have hn : isName l = false := by
      unfold isName
      rw [show decide (1 ≤ l.length) = false from decide_eq_false (by omega)]
      rfl
    rw [hn]
    have hz0 : (str l).size = 0 := by omega
    clear hn h0 hz hl
    go_enter Tryz.func58, Tryz.ntmps58
    go_wp2
    go_ret
    exact ⟨rfl, Below.refl _ _⟩
  · by_cases h1 : 32 < l.length
    · have hn : isName l = false := by
        unfold isName
        rw [show decide (l.length ≤ 32) = false from decide_eq_false (by omega)]
        simp
      rw [hn]
      have hz0 : 32 < (str l).size := by omega
      have hz1 : (str l).size ≤ 140737488355328 := by omega
      have hz2 : (((str l).size : Int) == 0) = false := by rw [beq_eq_false_iff_ne]; omega
      have hz3 : decide (32 < ((str l).size : Int)) = true := decide_eq_true (by omega)
      clear hn h0 h1 hz hl
      go_enter Tryz.func58, Tryz.ntmps58
      go_wp2
      go_ret
      exact ⟨rfl, Below.refl _ _⟩
    · have hn : isName l = okFrom 0 l := by
        unfold isName
        rw [show decide (1 ≤ l.length) = true from decide_eq_true (by omega), show decide (l.length ≤ 32) = true from decide_eq_true (by omega)]
        rfl
      rw [hn]
      have HN := Lib.hid (show okFrom 0 (l.drop 0) = okFrom 0 l by simp)
      generalize okFrom 0 l = ans at *
      have hz0 : 0 < (str l).size := by omega
      have hz1 : (str l).size ≤ 32 := by omega
      have hz2 : (((str l).size : Int) == 0) = false := by rw [beq_eq_false_iff_ne]; omega
      have hz3 : decide (32 < ((str l).size : Int)) = false := decide_eq_false (by omega)
      have HZ := Lib.hid hz
      clear hn h0 h1 hz hl
      go_enter Tryz.func58, Tryz.ntmps58
      go_wp2
      go_loopw [15] (fun _ wr => ∃ pos : Nat, wr.heap[w.heap.size]? = some (.stringIter (str l) pos) ∧ Aside (Below w.heap.size w wr) ∧ Aside (okFrom pos (l.drop pos) = ans)) (fun _ wr => (str l).size - wr.iterPos w.heap.size)
      case atStart => exact ⟨0, World.iter_heap w (str l) 0, (Below.refl _ w).alloc (Nat.le_refl _) _, HN.out⟩
      case round =>
        obtain ⟨pos, hit, hbw, hok⟩ := hrel
        have hsz : w.heap.size < wr.heap.size := (Array.getElem?_eq_some_iff.1 hit).1
        by_cases hp : pos < (str l).size
        · have hpl : pos < l.length := by rw [← HZ.out]; exact hp
          rw [okFrom_drop hpl] at hok
          have HOK := Lib.hid (show (nmAt pos (l[pos]'hpl) && okFrom (pos + 1) (l.drop (pos + 1))) = ans from hok)
          have HB := Lib.hid hbw
          have hg := get_str l pos hp
          clear hok hbw
          generalize hc : l[pos]'hpl = c at *
          by_cases ha : c.toNat < 128
          · have hnx : ∀ ty, (Instr.next (.pointer (some ⟨w.heap.size, 0, none⟩)) true ty).run Tryz.prog wr = .ok (.tuple #[.bool true, .int .i64 (pos : Int), .int .i32 (c.toNat : Int)]) (wr.iterAt w.heap.size (str l) (pos + 1)) := fun ty => by
              rw [Lib.run_next_ascii_at wr w.heap.size (str l) pos ty hit hp (by omega), hg]
            have HI2 := Lib.hid (Lib.iterAt_heap wr w.heap.size (str l) pos (pos + 1) hit)
            have HB2 := Lib.hid (Lib.below_iterAt HB.out (k := w.heap.size) (Nat.le_refl _) (str l) (pos + 1))
            have HIT := Lib.hid hit
            have hnm := nm_win (i := pos) (b := c)
            rw [hnm] at HOK
            clear hit hnm hg hc hpl
            have hc2 : ((c.toNat : Nat) : Int) < 128 := by omega
            cases hw : win (c.toNat : Int) with
            | false =>
              have HW := Lib.hid hw
              have hans : ans = false := by rw [← HOK.out, hw]; rfl
              subst hans
              clear hw HOK
              go_wp2_with (go_at_call 82; refine (within_any _ _).mono ?_; rintro e w1 ⟨rfl, rfl⟩; rw [HW.out])
              go_ret
              exact ⟨rfl, HB2.out⟩
            | true =>
              have HW := Lib.hid hw
              rw [hw] at HOK
              clear hw
              by_cases h0 : pos = 0
              · subst h0
                have k0 : (((0 : Nat) : Int) == 0) = true := rfl
                by_cases h45 : c.toNat = 45
                · have hans : ans = false := by rw [← HOK.out, h45]; rfl
                  have k45 : (((c.toNat : Nat) : Int) == 45) = true := by rw [beq_iff_eq]; omega
                  subst hans
                  clear HOK h45
                  go_wp2_with (go_at_call 82; refine (within_any _ _).mono ?_; rintro e w1 ⟨rfl, rfl⟩; rw [HW.out])
                  go_ret
                  exact ⟨rfl, HB2.out⟩
                · have k45 : (((c.toNat : Nat) : Int) == 45) = false := by rw [beq_eq_false_iff_ne]; omega
                  by_cases h46 : c.toNat = 46
                  · have hans : ans = false := by rw [← HOK.out, h46]; rfl
                    have k46 : (((c.toNat : Nat) : Int) == 46) = true := by rw [beq_iff_eq]; omega
                    subst hans
                    clear HOK h45 h46
                    go_wp2_with (go_at_call 82; refine (within_any _ _).mono ?_; rintro e w1 ⟨rfl, rfl⟩; rw [HW.out])
                    go_ret
                    exact ⟨rfl, HB2.out⟩
                  · have k46 : (((c.toNat : Nat) : Int) == 46) = false := by rw [beq_eq_false_iff_ne]; omega
                    have HO2 := Lib.hid (show okFrom (0 + 1) (l.drop (0 + 1)) = ans by
                      have := HOK.out
                      rw [show decide (c.toNat = 45) = false from decide_eq_false h45, show decide (c.toNat = 46) = false from decide_eq_false h46] at this
                      simpa using this)
                    clear HOK h45 h46
                    go_wp2_with (go_at_call 82; refine (within_any _ _).mono ?_; rintro e w1 ⟨rfl, rfl⟩; rw [HW.out])
                    go_roundw
                    case rel => exact ⟨0 + 1, HI2.out, HB2.out, HO2.out⟩
                    case measure =>
                      simp only [World.iterPos, HI2.out, HIT.out]
                      omega
              · have k0 : (((pos : Nat) : Int) == 0) = false := by rw [beq_eq_false_iff_ne]; omega
                have HO2 := Lib.hid (show okFrom (pos + 1) (l.drop (pos + 1)) = ans by
                  have := HOK.out
                  rw [show decide (pos = 0) = false from decide_eq_false h0] at this
                  simpa using this)
                clear HOK
                go_wp2_with (go_at_call 82; refine (within_any _ _).mono ?_; rintro e w1 ⟨rfl, rfl⟩; rw [HW.out])
                go_roundw
                case rel => exact ⟨pos + 1, HI2.out, HB2.out, HO2.out⟩
                case measure =>
                  simp only [World.iterPos, HI2.out, HIT.out]
                  omega
          · obtain ⟨hr, hd⟩ := decode_high (str l) pos hp (by omega)
            have hle := decode_le (str l) pos
            have hnx : ∀ ty, (Instr.next (.pointer (some ⟨w.heap.size, 0, none⟩)) true ty).run Tryz.prog wr = _ := fun ty => Lib.run_next_any_at wr w.heap.size (str l) pos ty hit hp
            have HB2 := Lib.hid (Lib.below_iterAt HB.out (k := w.heap.size) (Nat.le_refl _) (str l) (pos + (Utf8.decode (str l) pos).2))
            have hans : ans = false := by rw [← HOK.out, name_high (l := l) (by omega)]; rfl
            have hw : win ((Utf8.decode (str l) pos).1 : Int) = false := win_no (by omega)
            have HW := Lib.hid hw
            subst hans
            clear hw HOK hit hg hc hpl
            go_wp2_with (go_at_call 82; refine (within_any _ _).mono ?_; rintro e w1 ⟨rfl, rfl⟩; rw [HW.out])
            go_ret
            exact ⟨rfl, HB2.out⟩
        · have hnx : ∀ ty, (Instr.next (.pointer (some ⟨w.heap.size, 0, none⟩)) true ty).run Tryz.prog wr = _ := fun ty => Lib.run_next_end_at wr w.heap.size (str l) pos ty hit hp
          have ha : ans = true := by rw [← hok]; exact okFrom_end l (by rw [← HZ.out]; omega)
          have HB := Lib.hid hbw
          subst ha
          clear hok hbw hit
          go_wp2
          go_ret
          exact ⟨rfl, HB.out⟩
end Go.Proofs.YtkjffoebcblpoaaGreat.gn
end
section
set_option linter.unusedVariables false
namespace Go.Proofs.YtkjffoebcblpoaaGreat.gn
open Go.RowKit Go.Shelf

attribute [local go_sem] Oper.semAt_some

theorem cell_lt {w : World} {a : Addr} {v : Value} (h : w.cell? a = some v) : a.block < w.heap.size := by
  unfold World.cell? at h
  cases hb : w.heap[a.block]? with
  | none => rw [hb] at h; simp at h
  | some o => exact lt_of_block hb

/-- A box of two cells. -/
def Box2 (W : World) (B : Nat) (t : TypeId) (u v : Value) : Prop := W.heap[B]? = some (.cells #[u, v] t (0, 0))
theorem Box2.lt {W : World} {B : Nat} {t : TypeId} {u v : Value} (h : Box2 W B t u v) : B < W.heap.size := (Array.getElem?_eq_some_iff.1 h).1
theorem Box2.cell0 {W : World} {B : Nat} {t : TypeId} {u v : Value} (h : Box2 W B t u v) : W.cell? ⟨B, 0, none⟩ = some u := by simp [World.cell?, show W.heap[B]? = _ from h]
theorem Box2.cell1 {W : World} {B : Nat} {t : TypeId} {u v : Value} (h : Box2 W B t u v) : W.cell? ⟨B, 1, none⟩ = some v := by simp [World.cell?, show W.heap[B]? = _ from h]
theorem Box2.free {W : World} {B : Nat} {t : TypeId} {u v : Value} (h : Box2 W B t u v) (j : Nat) : W.frozen? ⟨B, j, none⟩ = false := by simp [World.frozen?, show W.heap[B]? = _ from h]
theorem Box2.kept {W W' : World} {row : Option Nat} {B : Nat} {t : TypeId} {u v : Value} (h : Box2 W B t u v) (hg : W.grownBy W' row) (hne : some B ≠ row) : Box2 W' B t u v := (hg.block B h.lt hne).trans h
theorem Box2.alloc {W : World} {B : Nat} {t : TypeId} {u v : Value} (h : Box2 W B t u v) (o : Obj) : Box2 (W.alloc o) B t u v := h.kept (World.grownBy_alloc W o none) (by simp)
theorem Box2.new (W : World) (t : TypeId) (u v : Value) : Box2 (W.alloc (.cells #[u, v] t)) W.heap.size t u v := World.alloc_heap_new W _
theorem box2_own {β : Type} (B : Nat) (t : TypeId) (f f' : β → Value) : Own (fun s W => Box2 W B t (f s) (f' s)) := fun s X Y row hs hg hrow =>
  hs.kept hg (fun e' => by obtain ⟨o, ho, hc⟩ := hrow B e'.symm; rw [show X.heap[B]? = _ from hs] at ho; cases ho; cases hc)
theorem KeepsFrom.of_below {B : Nat} {W W' : World} (h : Below W.heap.size W W') : KeepsFrom B W W' :=
  ⟨h.size, fun k _ _ hk _ => (h.block k (Array.getElem?_eq_some_iff.1 hk).1).trans hk⟩

/-- It speaks of blocks below B alone. -/
def AbidesN {β : Type} (B : Nat) (J : β → World → Prop) : Prop := ∀ s A C row, J s A → A.grownBy C row → (∀ r, row = some r → B ≤ r) → J s C
/-- All cells but block c's lie as they lay. -/
structure KpC (c : Nat) (A C : World) : Prop where
  size : A.heap.size ≤ C.heap.size
  cells : ∀ k o, k ≠ c → A.heap[k]? = some o → o.isCells = true → C.heap[k]? = some o
theorem KpC.refl (c : Nat) (A : World) : KpC c A A := ⟨Nat.le_refl _, fun _ _ _ h _ => h⟩
theorem KpC.trans {c : Nat} {A B C : World} (h : KpC c A B) (k : KpC c B C) : KpC c A C := ⟨Nat.le_trans h.size k.size, fun i o hi ho hc => k.cells i o hi (h.cells i o hi ho hc) hc⟩
theorem KpC.of_below {c : Nat} {A C : World} (h : Below A.heap.size A C) : KpC c A C := ⟨h.size, fun k _ _ ho _ => (h.block k (lt_of_block ho)).trans ho⟩
theorem KpC.set {c : Nat} (A : World) (j : Nat) (v : Value) : KpC c A (A.setCell ⟨c, j, none⟩ v) :=
  ⟨by simp, fun k o hk ho _ => (Below.heap_setCell _ _ _ _ (by simpa using hk)).trans ho⟩
theorem KpC.drew {c : Nat} (A : World) : KpC c A A.drew := ⟨Nat.le_refl _, fun _ _ _ h _ => h⟩
theorem KpC.put {c l : Nat} {A : World} {o : Obj} (o' : Obj) (h : A.heap[l]? = some o) (ho : o.isCells = false) : KpC c A (A.putObj l o') :=
  ⟨by rw [World.putObj_size]; exact Nat.le_refl _, fun k u hk hu hc => by
    have hne : k ≠ l := fun e => by subst e; rw [h] at hu; cases hu; rw [ho] at hc; cases hc
    exact (World.putObj_heap_other (by omega)).trans hu⟩

/-- The iterator's contract. -/
def SeqNew {α : Type} (n : Nat) (P : Program) (g : Nat) (lb : Array Value) (encs : α → Array Value) (c : Nat) (S Sp : List α → Prop) (N : Nat) (w : World) : Prop :=
  ∀ (l : Nat) (J Jx : List α → World → Prop) (W : World), Below w.heap.size w W → AbidesN W.heap.size J → AbidesN W.heap.size Jx →
    (∀ pre x A, J pre A → pre.length < N → YieldAt Fence.wide (n - 1) P l (encs x) A fun e C =>
      (e = .returned (.bool true) ∧ J (pre ++ [x]) C ∧ KpC c A C) ∨ (e = .returned (.bool false) ∧ Jx (pre ++ [x]) C)) → J [] W →
    CallsIn Fence.wide n P g (#[.func (.yield l) #[] #[]] ++ lb) W fun e C => (∃ v, e = .returned v) ∧ ((∃ ys, S ys ∧ J ys C) ∨ ∃ pre, Sp pre ∧ Jx pre C)

/-- How a round's body may be left. -/
def ownPostN {α : Type} (D c : Nat) (I : List α → World → Prop) (Ix : Code → List α → World → Prop) (xs : List α) (W : World) : Exit → Act → World → Prop
  | .normal, _, C => KeepsFrom D W C ∧ KpC c W C ∧ I xs C
  | .ret, _, C => KeepsFrom D W C ∧ Ix .ret xs C
  | .exit id, _, C => KeepsFrom D W C ∧ Ix (.exit id) xs C
  | .goto _, _, _ => False
  | .panic _, _, _ => False
  | .outgrown, _, _ => False

theorem range_new {α : Type} {P : Program} {n : Nat} {g : Operand} {ps : Array Tmp} {assign body : Code} {Q : Exit → Act → World → Prop} {a : Act} {w : World} (h1 : 1 ≤ n) {gf : Nat} {lb : Array Value}
    (hg : a.eval g = .func (.func gf) #[] lb) (eg : ∀ args w, (callFunc gf args).run P w = .ok (.enter gf args) w) {encs : α → Array Value} {c : Nat} {S Sp : List α → Prop} {N : Nat} {w0 : World}
    (hseq : SeqNew (n - 1) P gf lb encs c S Sp N w0) (hb0 : Below w0.heap.size w0 w) (hps : ∀ x, (encs x).size = ps.size)
    (I : List α → World → Prop) (Ix : Code → List α → World → Prop) (hI : AbidesN w.heap.size I) (hIx : ∀ k, AbidesN w.heap.size (Ix k)) (h0 : I [] w)
    (Ax : α → Act → World → Prop) (hAx : ∀ x a', OwnFrom w.heap.size (fun (_ : Unit) W => Ax x a' W))
    (hassign : ∀ (l : Nat) (pre : List α) (x : α) (W : World) (K : Act → World → Prop), I pre W → w.heap.size ≤ W.heap.size → (∀ a' W', KeepsFrom w.heap.size W W' → KpC c W W' → I pre W' → Ax x a' W' → K a' W') →
      assign.wpIn (Fence.wide.inRound l) (n - 1 - 1) P (Exit.then K (fun _ _ _ => False)) { tmps := (ps.zip (encs x)).foldl (fun t (p, v) => t.setIfInBounds p v) a.tmps, defers := [] } W)
    (hbody : ∀ (l : Nat) (pre : List α) (x : α) (a' : Act) (W : World), w.heap.size ≤ W.heap.size → I pre W → Ax x a' W → body.wpIn (Fence.wide.inRound l) (n - 1 - 1) P (ownPostN w.heap.size c I Ix (pre ++ [x]) W) a' W)
    (hdone : ∀ (D : Nat) (xs : List α) (W : World), w.heap.size ≤ D → S xs → I xs W → W.heap[D]? = some (.deferred (some [])) → Q .normal { a with defers := { target := .collected D, args := #[] } :: a.defers } W)
    (hstop : ∀ (D : Nat) (k : Code) (pre : List α) (W : World), w.heap.size ≤ D → Sp pre → Ix k pre W → W.heap[D]? = some (.deferred (some [])) → k.wpIn Fence.wide n P Q { a with defers := { target := .collected D, args := #[] } :: a.defers } W) :
    (Code.rangeFunc g ps assign body).wpIn Fence.wide n P Q a w := by
  refine wpIn_rangeFunc fun fn hfn => ?_
  obtain ⟨rec, hrec⟩ : ∃ rec : LoopState → Option Code → Loop, rec = fun st pe => { state := st, pending := pe, fn, tmps := a.tmps, params := ps, assign, body, defers := w.heap.size } := ⟨_, rfl⟩
  obtain ⟨s, hs⟩ : ∃ s, s = w.heap.size := ⟨_, rfl⟩
  obtain ⟨W1, hW1⟩ : ∃ W1, (w.alloc (.deferred (some []))).alloc (.loop (rec .ready none)) = W1 := ⟨_, rfl⟩
  have hL1 : W1.heap[s + 1]? = some (.loop (rec .ready none)) := by
    have h := World.alloc_heap_new (w.alloc (.deferred (some []))) (.loop (rec .ready none))
    rw [World.size_alloc, hW1, ← hs] at h
    exact h
  have hK1 : W1.heap[s]? = some (.deferred (some [])) := by
    rw [← hW1, hs]; exact (Below.heap_alloc _ _ _ (by simp)).trans (World.alloc_heap_new w _)
  have hb1 : Below w.heap.size w W1 := by rw [← hW1]; exact ((Below.refl _ w).alloc (Nat.le_refl _) _).alloc (by simp) _
  have hz1 : W1.heap.size = s + 2 := by rw [← hW1, hs]; simp
  have hI1 : I [] W1 := hI [] w W1 none h0 ⟨hb1.os, hb1.tape, hb1.output, hb1.size, fun k hk _ => hb1.block k hk⟩ (fun r e => by cases e)
  -- the rounds' words, with the two blocks of book-keeping beside them
  obtain ⟨J, hJ⟩ : ∃ J : List α → World → Prop, J = fun pre W => I pre W ∧ W.heap[s + 1]? = some (.loop (rec .ready none)) ∧ W.heap[s]? = some (.deferred (some [])) ∧ s ≤ W.heap.size := ⟨_, rfl⟩
  obtain ⟨Jx, hJx⟩ : ∃ Jx : List α → World → Prop, Jx = fun pre W => ∃ k, Ix k pre W ∧ W.heap[s + 1]? = some (.loop (rec .done (some k))) ∧ W.heap[s]? = some (.deferred (some [])) := ⟨_, rfl⟩
  have other : ∀ {A B : World} {k : Nat} {o : Obj} {row : Option Nat}, A.grownBy B row → (∀ r, row = some r → W1.heap.size ≤ r) → k ≤ s + 1 → A.heap[k]? = some o → B.heap[k]? = some o := fun hg' hr hk h =>
    (hg'.block _ (Array.getElem?_eq_some_iff.1 h).1 (fun e => by have := hr _ e.symm; omega)).trans h
  have hput : ∀ {A : World} (o' : Obj), A.grownBy (A.putObj (s + 1) o') (some (s + 1)) ∧ ∀ r, some (s + 1) = some r → w.heap.size ≤ r := fun o' =>
    ⟨grownBy_putObj' _ _ _, fun r e => by cases e; omega⟩
  have hend : ∀ (jump : Option Code) (A : World), A.heap[s + 1]? = some (.loop { rec .ready none with state := .busy }) →
      (Instr.endRound (s + 1) jump).run P A = .ok (.bool jump.isNone) (A.putObj (s + 1) (.loop (rec (if jump.isNone then .ready else .done) jump))) := fun jump A h => by
    have := run_endRound (P := P) jump h
    rw [hrec] at this ⊢
    exact this
  refine ⟨s + 1, [{ target := .collected s, args := #[] }], W1, { target := .fn (.func gf) lb, args := #[.func (.yield (s + 1)) #[] #[]] }, W1, gf, #[.func (.yield (s + 1)) #[] #[]] ++ lb, W1, ?_, ?_, fun _ _ => trivial, ?_, fun _ => h1, ?_⟩
  · rw [← hW1, hrec, hs]; exact run_enterLoop_outer _ _ _ _ _
  · simp only [resolve, hg]
    simp [go_sem]
  · simp [invoke, go_sem, eg]
  · refine (hseq (s + 1) J Jx W1 (hb0.trans (hb1.mono hb0.size)) (fun pre A B row h hg' hr => ?_) (fun pre A B row h hg' hr => ?_) (fun pre x A hj _ => ?_) ?_).mono ?_
    · rw [hJ] at h ⊢
      exact ⟨hI pre A B _ h.1 hg' (fun r e => by have := hr r e; omega), other hg' hr (Nat.le_refl _) h.2.1, other hg' hr (by omega) h.2.2.1, Nat.le_trans h.2.2.2 hg'.size⟩
    · rw [hJx] at h ⊢
      obtain ⟨k, h1, h2, h3⟩ := h
      exact ⟨k, hIx k pre A B _ h1 hg' (fun r e => by have := hr r e; omega), other hg' hr (Nat.le_refl _) h2, other hg' hr (by omega) h3⟩
    · rw [hJ] at hj
      obtain ⟨hi, hl, hk, hsz⟩ := hj
      have hy := run_yield (P := P) (args := encs x) hl (by rw [hrec]; exact hps x)
      rw [hrec] at hy
      refine ⟨fn, _, assign, body, hy, roundIn_of_wpIn hfn (hassign _ pre x A _ hi (by omega) ?_)⟩
      clear hy
      intro a' Wa hkf hkp hia hax
      have hla := hkf.same _ _ (by omega) hl rfl
      have hka := hkf.same _ _ (by omega) hk rfl
      have hlt : s + 1 < Wa.heap.size := (Array.getElem?_eq_some_iff.1 hla).1
      refine ⟨_, run_beginRound hla (by rw [hrec]), ?_⟩
      have hl2 : (Wa.putObj (s + 1) (.loop { rec .ready none with state := .busy })).heap[s + 1]? = some (.loop { rec .ready none with state := .busy }) := World.putObj_heap_same hlt
      have hk2 : (Wa.putObj (s + 1) (.loop { rec .ready none with state := .busy })).heap[s]? = some (.deferred (some [])) := (World.putObj_heap_other (by omega)).trans hka
      have hp2 : KpC c Wa (Wa.putObj (s + 1) (.loop { rec .ready none with state := .busy })) := KpC.put _ hla rfl
      have hsz2 : s ≤ (Wa.putObj (s + 1) (.loop { rec .ready none with state := .busy })).heap.size := by rw [World.putObj_size]; omega
      refine wpIn_mono (hbody _ pre x a' _ (by rw [World.putObj_size]; omega) (hI _ _ _ _ hia (hput _).1 (hput (A := Wa) (.loop { rec .ready none with state := .busy })).2) ((hAx x a').putObj (s := ()) _ hax (by omega) hla rfl)) ?_
      rintro e a3 A3 hp
      cases e with
      | normal =>
        obtain ⟨p1, p2, p3⟩ := hp
        have hl3 := p1.same _ _ (by omega) hl2 rfl
        have hlt3 : s + 1 < A3.heap.size := (Array.getElem?_eq_some_iff.1 hl3).1
        refine ⟨_, _, hend none A3 hl3, .inl ⟨rfl, ?_, hkp.trans (hp2.trans (p2.trans (KpC.put _ hl3 rfl)))⟩⟩
        rw [hJ]
        exact ⟨hI _ _ _ _ p3 (hput _).1 (hput (A := A3) (.loop (rec .ready none))).2, World.putObj_heap_same hlt3, (World.putObj_heap_other (by omega)).trans (p1.same _ _ (by omega) hk2 rfl), by rw [World.putObj_size]; omega⟩
      | ret =>
        obtain ⟨p1, p3⟩ := hp
        have hl3 := p1.same _ _ (by omega) hl2 rfl
        have hlt3 : s + 1 < A3.heap.size := (Array.getElem?_eq_some_iff.1 hl3).1
        refine ⟨_, _, hend (some .ret) A3 hl3, .inr ⟨rfl, ?_⟩⟩
        rw [hJx]
        exact ⟨.ret, hIx _ _ _ _ _ p3 (hput _).1 (hput (A := A3) (.loop (rec .done (some .ret)))).2, World.putObj_heap_same hlt3, (World.putObj_heap_other (by omega)).trans (p1.same _ _ (by omega) hk2 rfl)⟩
      | exit k =>
        obtain ⟨p1, p3⟩ := hp
        have hl3 := p1.same _ _ (by omega) hl2 rfl
        have hlt3 : s + 1 < A3.heap.size := (Array.getElem?_eq_some_iff.1 hl3).1
        refine ⟨_, _, hend (some (.exit k)) A3 hl3, .inr ⟨rfl, ?_⟩⟩
        rw [hJx]
        exact ⟨.exit k, hIx _ _ _ _ _ p3 (hput _).1 (hput (A := A3) (.loop (rec .done (some (.exit k))))).2, World.putObj_heap_same hlt3, (World.putObj_heap_other (by omega)).trans (p1.same _ _ (by omega) hk2 rfl)⟩
      | goto t => exact hp.elim
      | panic ch => exact hp.elim
      | outgrown => exact hp.elim
    · rw [hJ]; exact ⟨hI1, hL1, hK1, by omega⟩
    · rintro e A ⟨⟨v, rfl⟩, (⟨ys, hS, hx⟩ | ⟨pre, hSp, hx⟩)⟩
      · rw [hJ] at hx
        obtain ⟨hi, hl, hk, _⟩ := hx
        have he : (Instr.endLoop (s + 1)).run P A = .ok none (A.putObj (s + 1) (.loop (rec .exhausted none))) := by
          have := run_endLoop (P := P) hl (by rw [hrec]; simp)
          rw [hrec] at this ⊢
          exact this
        refine ⟨none, _, he, ?_⟩
        exact hdone s ys _ (by omega) hS (hI _ _ _ _ hi (hput _).1 (fun r e => (hput (A := A) default).2 r e)) ((World.putObj_heap_other (by omega)).trans hk)
      · rw [hJx] at hx
        obtain ⟨k, hi, hl, hk⟩ := hx
        have he : (Instr.endLoop (s + 1)).run P A = .ok (some k) (A.putObj (s + 1) (.loop (rec .exhausted (some k)))) := by
          have := run_endLoop (P := P) hl (by rw [hrec]; simp)
          rw [hrec] at this ⊢
          exact this
        refine ⟨some k, _, he, ?_⟩
        exact hstop s k pre _ (by omega) hSp (hIx _ _ _ _ _ hi (hput _).1 (fun r e => (hput (A := A) default).2 r e)) ((World.putObj_heap_other (by omega)).trans hk)
theorem cells_of_cell {w : World} {a : Addr} {v : Value} (h : w.cell? a = some v) : ∃ o, w.heap[a.block]? = some o ∧ o.isCells = true := by
  unfold World.cell? at h
  cases hb : w.heap[a.block]? with
  | none => rw [hb] at h; simp at h
  | some o =>
    refine ⟨o, rfl, ?_⟩
    rw [hb] at h
    cases o <;> first | rfl | (simp at h)

/-- All cells below B, but block c's, lie as they lay. -/
structure KpB (B c : Nat) (A C : World) : Prop where
  size : A.heap.size ≤ C.heap.size
  cells : ∀ k o, k < B → k ≠ c → A.heap[k]? = some o → o.isCells = true → C.heap[k]? = some o
theorem KpB.refl (B c : Nat) (A : World) : KpB B c A A := ⟨Nat.le_refl _, fun _ _ _ _ h _ => h⟩
theorem KpB.kp {B c : Nat} {A C D : World} (h : KpB B c A C) (k : KpC c C D) : KpB B c A D := ⟨Nat.le_trans h.size k.size, fun i o hB hi ho hc => k.cells i o hi (h.cells i o hB hi ho hc) hc⟩
theorem KpB.next {B c : Nat} {A C D : World} (h : KpB B c A C) (k : Below C.heap.size C D) : KpB B c A D := h.kp (KpC.of_below k)
theorem KpB.set {B c D : Nat} {A C : World} (h : KpB B c A C) (hD : B ≤ D) (j : Nat) (v : Value) : KpB B c A (C.setCell ⟨D, j, none⟩ v) :=
  ⟨by simpa using h.size, fun k o hB hk ho hc => (Below.heap_setCell _ _ _ _ (by show k ≠ D; omega)).trans (h.cells k o hB hk ho hc)⟩
theorem KpB.drewN {B c : Nat} {A C : World} (h : KpB B c A C) (n : Nat) : KpB B c A (C.drewN n) := ⟨h.size, h.cells⟩
theorem KpB.cell {B c k o : Nat} {A C : World} {v : Value} (h : KpB B c A C) (hB : k < B) (hc : k ≠ c) (hv : A.cell? ⟨k, o, none⟩ = some v) : C.cell? ⟨k, o, none⟩ = some v := by
  obtain ⟨u, hu, hcu⟩ := cells_of_cell hv
  exact (World.cell?_of_block (a := ⟨k, o, none⟩) ((h.cells k u hB hc hu hcu).trans hu.symm)).trans hv
theorem grown_drewN (A : World) (n : Nat) : A.grownBy (A.drewN n) none := ⟨rfl, rfl, rfl, Nat.le_refl _, fun _ _ _ => rfl⟩
theorem Box2.kc {A C : World} {c B : Nat} {t : TypeId} {u v : Value} (h : Box2 A B t u v) (hk : KpC c A C) (hc : B ≠ c) : Box2 C B t u v := hk.cells B _ hc h rfl
theorem Box2.drewN {A : World} {B : Nat} {t : TypeId} {u v : Value} (h : Box2 A B t u v) (n : Nat) : Box2 (A.drewN n) B t u v := h

end Go.Proofs.YtkjffoebcblpoaaGreat.gn
end
section
set_option linter.unusedVariables false
set_option maxRecDepth 100000
namespace Go.Proofs.YtkjffoebcblpoaaGreat.gn
open Go.RowKit Go.Shelf Go.Sort Go.Lib
open Go.Proofs.YtkjffoebcblpoaaGreat.ex

attribute [local go_sem] Oper.semAt_some

def encX (x : X) : List Value := [.int .i64 x.1, .int .i64 x.2]
def fl : List X → List Value
  | [] => []
  | x :: l => .int .i64 x.1 :: .int .i64 x.2 :: fl l
theorem fl_length : ∀ l : List X, (fl l).length = l.length * 2
  | [] => rfl
  | x :: l => by simp only [fl, List.length_cons, fl_length l]; omega
theorem fl_append : ∀ l k : List X, fl (l ++ k) = fl l ++ fl k
  | [], _ => rfl
  | x :: l, k => by simp only [List.cons_append, fl, fl_append l k]
theorem fl_at : ∀ (l : List X) (j : Nat), j < l.length → (fl l)[j * 2]? = some (.int .i64 l[j]!.1) ∧ (fl l)[j * 2 + 1]? = some (.int .i64 l[j]!.2)
  | x :: l, 0, _ => ⟨rfl, rfl⟩
  | x :: l, j + 1, h => by
    have := fl_at l j (by simpa using h)
    rw [show (j + 1) * 2 = j * 2 + 1 + 1 by omega]
    simp only [fl, List.getElem?_cons_succ]
    exact this
theorem fl_one (l : List X) : ∀ v ∈ fl l, v.oneCell' = true := by
  induction l with
  | nil => intro v hv; cases hv
  | cons x l ih =>
    intro v hv
    rcases List.mem_cons.1 hv with rfl | hv
    · rfl
    · rcases List.mem_cons.1 hv with rfl | hv
      · rfl
      · exact ih v hv
abbrev aggX (x : X) : Value := .agg #[.int .i64 x.1, .int .i64 x.2]

def CellsX (w : World) (b off : Nat) (l : List X) : Prop := ∀ j, j < l.length → w.cell? ⟨b, off + j * 2, none⟩ = some (.int .i64 l[j]!.1) ∧ w.cell? ⟨b, off + j * 2 + 1, none⟩ = some (.int .i64 l[j]!.2)
/-- v is a slice of these: nil, or it names its block. -/
def RdS (w : World) (v : Value) (l : List X) : Prop :=
  (v = .slice none 0 0 ∧ l = []) ∨ ∃ b off c, v = .slice (some ⟨b, off, none⟩) l.length c ∧ b < w.heap.size ∧ CellsX w b off l
/-- v is a slice of these: any slice that is empty, or it names its block. -/
def Rd (w : World) (v : Value) (l : List X) : Prop :=
  (∃ p c, v = .slice p 0 c ∧ l = [] ∧ (p = none → c = 0)) ∨ ∃ b off c, v = .slice (some ⟨b, off, none⟩) l.length c ∧ b < w.heap.size ∧ CellsX w b off l
theorem RdS.rd {w : World} {v : Value} {l : List X} (h : RdS w v l) : Rd w v l := h.imp (fun h => ⟨none, 0, h.1, h.2, fun _ => rfl⟩) id
theorem CellsX.below {w w' : World} {b off : Nat} {l : List X} (h : CellsX w b off l) {B : Nat} (hb : Below B w w') (hB : b < B) : CellsX w' b off l := fun j hj =>
  ⟨(hb.cell (p := ⟨b, off + j * 2, none⟩) hB).trans (h j hj).1, (hb.cell (p := ⟨b, off + j * 2 + 1, none⟩) hB).trans (h j hj).2⟩
theorem Rd.below {w w' : World} {v : Value} {l : List X} (h : Rd w v l) {B : Nat} (hb : Below B w w') (hB : w.heap.size ≤ B) : Rd w' v l := by
  rcases h with h | ⟨b, off, c, e, hlt, hc⟩
  · exact .inl h
  · exact .inr ⟨b, off, c, e, Nat.lt_of_lt_of_le hlt hb.size, hc.below hb (by omega)⟩
theorem RdS.below {w w' : World} {v : Value} {l : List X} (h : RdS w v l) {B : Nat} (hb : Below B w w') (hB : w.heap.size ≤ B) : RdS w' v l := by
  rcases h with h | ⟨b, off, c, e, hlt, hc⟩
  · exact .inl h
  · exact .inr ⟨b, off, c, e, Nat.lt_of_lt_of_le hlt hb.size, hc.below hb (by omega)⟩
theorem RdS.next {w w' : World} {v : Value} {l : List X} (h : RdS w v l) (hb : Below w.heap.size w w') : RdS w' v l := h.below hb (Nat.le_refl _)
theorem Rd.next {w w' : World} {v : Value} {l : List X} (h : Rd w v l) (hb : Below w.heap.size w w') : Rd w' v l := h.below hb (Nat.le_refl _)
/-- A row of the call's own. -/
def OwnX (base : Nat) (w : World) (v : Value) (l : List X) : Prop := w.ownsRow base 55 2 v l.length (fl l)
theorem OwnX.nil (base : Nat) (w : World) : OwnX base w (.slice none 0 0) [] := World.ownsRow_nil _ _ _ _
theorem OwnX.next {base : Nat} {w w' : World} {v : Value} {l : List X} (h : OwnX base w v l) (hb : Below w.heap.size w w') : OwnX base w' v l :=
  World.ownsRow.kept h (grown_new hb) (by cases hv : v.ownBlock <;> simp)
theorem OwnX.mono {base B : Nat} {w : World} {v : Value} {l : List X} (h : OwnX base w v l) (hB : B ≤ base) : OwnX B w v l := by
  obtain ⟨h1, h2 | ⟨g, cap, cur, e, hb, r⟩⟩ := h
  · exact ⟨h1, .inl h2⟩
  · exact ⟨h1, .inr ⟨g, cap, cur, e, Nat.le_trans hB hb, r⟩⟩
theorem OwnX.rds {base : Nat} {w : World} {v : Value} {l : List X} (h : OwnX base w v l) : RdS w v l := by
  have hc : ∀ g, v.ownBlock = some g → ∀ j u, (fl l)[j]? = some u → w.cell? ((⟨g, 0, none⟩ : Addr).add j) = some u := fun g hg => World.ownsRow.cells h hg
  obtain ⟨h1, ⟨rfl, h2⟩ | ⟨g, cap, cur, rfl, hb, hg, _⟩⟩ := h
  · exact .inl ⟨rfl, List.length_eq_zero_iff.1 h2⟩
  · refine .inr ⟨g, 0, cap, rfl, (Array.getElem?_eq_some_iff.1 hg).1, fun j hj => ?_⟩
    have h3 := fl_at l j hj
    have a := hc g rfl _ _ h3.1
    have b := hc g rfl _ _ h3.2
    rw [Addr.add_lit, Nat.zero_add] at a b
    rw [Nat.zero_add]
    exact ⟨a, b⟩
theorem OwnX.rd {base : Nat} {w : World} {v : Value} {l : List X} (h : OwnX base w v l) : Rd w v l := h.rds.rd
theorem Rd.len {w : World} {v : Value} {l : List X} (h : Rd w v l) : ∃ p c, v = .slice p l.length c := by
  rcases h with ⟨p, c, rfl, rfl, _⟩ | ⟨b, off, c, e, _⟩
  · exact ⟨_, _, rfl⟩
  · exact ⟨_, _, e⟩

/-- The box of an extent. -/
abbrev boxX (x : X) : Obj := .cells #[.int .i64 x.1, .int .i64 x.2] 55
theorem grow_one (w : World) (o : Obj) : w.alloc o = grow w #[o] := rfl
def Sml (n : Int) : Prop := -9223372036854775808 ≤ n ∧ n < 9223372036854775808

theorem end_any (x : X) (w : World) (h : Sml (x.1 + x.2)) : Calls Tryz.prog 84 #[aggX x] w fun e w' => e = .returned (.int .i64 (x.1 + x.2)) ∧ w' = w.alloc (boxX x) := by
  obtain ⟨a, b⟩ := x
  unfold Sml at h
  dsimp only at h ⊢
  have hw : IntKind.i64.wrap (a + b) = a + b := by rw [IntKind.wrap_i64]; omega
  have H := Lib.hid h
  clear h
  go_enter Tryz.func84, Tryz.ntmps84
  go_wp2
  go_ret
  exact ⟨by first | rfl | rw [hw], rfl⟩
theorem begin_any (x : X) (w : World) : Calls Tryz.prog 118 #[aggX x] w fun e w' => e = .returned (.int .i64 x.1) ∧ w' = w.alloc (boxX x) := by
  obtain ⟨a, b⟩ := x
  dsimp only
  go_enter Tryz.func118, Tryz.ntmps118
  go_wp2
  go_ret
  exact ⟨rfl, rfl⟩
theorem isNaN_any (a : Int) (w : World) : Calls Tryz.prog 88 #[.int .i64 a] w fun e w' => e = .returned (.bool false) ∧ w' = w := by
  go_enter Tryz.func88, Tryz.ntmps88
  go_wp2
  go_ret
  exact ⟨by simp, rfl⟩
def cf (x y : X) : Int := if x.1 < y.1 then -1 else if y.1 < x.1 then 1 else 0
theorem cmp_any (a b : Int) (w : World) : Calls Tryz.prog 62 #[.int .i64 a, .int .i64 b] w fun e w' => e = .returned (.int .i64 (if a < b then -1 else if b < a then 1 else 0)) ∧ w' = w := by
  by_cases h1 : a < b
  · rw [if_pos h1]
    go_enter Tryz.func62, Tryz.ntmps62
    go_wp2_with (go_at_call 88; refine (isNaN_any _ _).mono ?_; rintro e w' ⟨rfl, rfl⟩)
    go_ret
    exact ⟨rfl, rfl⟩
  · by_cases h2 : b < a
    · rw [if_neg h1, if_pos h2]
      go_enter Tryz.func62, Tryz.ntmps62
      go_wp2_with (go_at_call 88; refine (isNaN_any _ _).mono ?_; rintro e w' ⟨rfl, rfl⟩)
      go_ret
      exact ⟨rfl, rfl⟩
    · rw [if_neg h1, if_neg h2]
      go_enter Tryz.func62, Tryz.ntmps62
      go_wp2_with (go_at_call 88; refine (isNaN_any _ _).mono ?_; rintro e w' ⟨rfl, rfl⟩)
      go_ret
      exact ⟨rfl, rfl⟩

theorem ld_x (P : Program) (w : World) (b off : Nat) (x : X) (h1 : w.cell? ⟨b, off, none⟩ = some (.int .i64 x.1)) (h2 : w.cell? ⟨b, off + 1, none⟩ = some (.int .i64 x.2)) :
    Sem.run P (loadCellsFrom ⟨b, off, none⟩ 0 2 #[]) w = .ok #[.int .i64 x.1, .int .i64 x.2] w :=
  run_loadCellsFrom_list P w ⟨b, off, none⟩ (encX x) 2 rfl fun j v hj => by
    match j, hj with
    | 0, hj => simp [encX] at hj; rw [← hj, Addr.add_lit]; exact h1
    | 1, hj => simp [encX] at hj; rw [← hj, Addr.add_lit]; exact h2
    | j + 2, hj => simp [encX] at hj

set_option maxHeartbeats 1000000 in
theorem compare_any (x y : X) (w : World) : Calls Tryz.prog 119 #[.func (.func 118) #[] #[], aggX x, aggX y] w fun e w' => e = .returned (.int .i64 (cf x y)) ∧ ∃ q os, w' = grow (w.drewN q) os := by
  obtain ⟨a, b⟩ := x
  obtain ⟨c, d⟩ := y
  have k1 := (Box2.new w 55 (.int .i64 a) (.int .i64 b)).alloc (boxX (c, d))
  have k2 := Box2.new (w.alloc (boxX (a, b))) 55 (.int .i64 c) (.int .i64 d)
  have p0 : ∀ n os, (grow (((w.alloc (boxX (a, b))).alloc (boxX (c, d))).drewN n) os).cell? ⟨w.heap.size, 0, none⟩ = some (.int .i64 a) := fun n os => cell_grown (by simp; omega) k1.cell0 n os
  have p1 : ∀ n os, (grow (((w.alloc (boxX (a, b))).alloc (boxX (c, d))).drewN n) os).cell? ⟨w.heap.size, 1, none⟩ = some (.int .i64 b) := fun n os => cell_grown (by simp; omega) k1.cell1 n os
  rw [World.size_alloc] at k2
  have q0 : ∀ n os, (grow (((w.alloc (boxX (a, b))).alloc (boxX (c, d))).drewN n) os).cell? ⟨w.heap.size + 1, 0, none⟩ = some (.int .i64 c) := fun n os => cell_grown (by simp) k2.cell0 n os
  have q1 : ∀ n os, (grow (((w.alloc (boxX (a, b))).alloc (boxX (c, d))).drewN n) os).cell? ⟨w.heap.size + 1, 1, none⟩ = some (.int .i64 d) := fun n os => cell_grown (by simp) k2.cell1 n os
  have c1 : ∀ n os, Calls Tryz.prog 118 #[.agg #[.int .i64 a, .int .i64 b]] (grow (((w.alloc (boxX (a, b))).alloc (boxX (c, d))).drewN n) os) fun e w'' => e = .returned (.int .i64 a) ∧ ∃ p : GrownBy, w'' = grow (((w.alloc (boxX (a, b))).alloc (boxX (c, d))).drewN p.n) p.os := fun n os =>
    Calls.grown_of ((begin_any (a, b) _).mono fun e w' h => ⟨h.1, 0, #[boxX (a, b)], h.2⟩)
  have c2 : ∀ n os, Calls Tryz.prog 118 #[.agg #[.int .i64 c, .int .i64 d]] (grow (((w.alloc (boxX (a, b))).alloc (boxX (c, d))).drewN n) os) fun e w'' => e = .returned (.int .i64 c) ∧ ∃ p : GrownBy, w'' = grow (((w.alloc (boxX (a, b))).alloc (boxX (c, d))).drewN p.n) p.os := fun n os =>
    Calls.grown_of ((begin_any (c, d) _).mono fun e w' h => ⟨h.1, 0, #[boxX (c, d)], h.2⟩)
  have c3 : ∀ n os, Calls Tryz.prog 62 #[.int .i64 a, .int .i64 c] (grow (((w.alloc (boxX (a, b))).alloc (boxX (c, d))).drewN n) os) fun e w'' => e = .returned (.int .i64 (cf (a, b) (c, d))) ∧ ∃ p : GrownBy, w'' = grow (((w.alloc (boxX (a, b))).alloc (boxX (c, d))).drewN p.n) p.os := fun n os =>
    Calls.grown_of ((cmp_any a c _).mono fun e w' h => ⟨h.1, 0, #[], by rw [grow_empty]; exact h.2⟩)
  have eg : ∀ args w, (callFunc 118 args).run Tryz.prog w = .ok (.enter 118 args) w := enters_of Tryz.func118 (by kernel_rfl) rfl
  have mixed : Tryz.prog.follows .mixedOrders = true := by kernel_rfl
  generalize cf (a, b) (c, d) = r at *
  clear k1 k2
  go_enter Tryz.func119, Tryz.ntmps119
  go_wp2
  go_quiet_grown (first | (go_at_call 62; exact c3 _ _) | (go_at_call 118; first | exact c1 _ _ | exact c2 _ _))
  go_wp2
  go_ret
  exact ⟨rfl, nq, (#[boxX (a, b)] ++ #[boxX (c, d)]) ++ osq, by rw [grow_one, grow_one, grow_grow]; show grow (grow (w.drewN nq) _) osq = _; rw [grow_grow]⟩
end Go.Proofs.YtkjffoebcblpoaaGreat.gn
end
section
set_option linter.unusedVariables false
set_option maxRecDepth 100000
namespace Go.Proofs.YtkjffoebcblpoaaGreat.gn
open Go.RowKit Go.Shelf Go.Sort Go.Lib
open Go.Proofs.YtkjffoebcblpoaaGreat.ex

attribute [local go_sem] Oper.semAt_some

theorem infoExt : (Tryz.prog.info? 55).map (fun i => (i.zero, i.size, i.bytes)) = some (some (.agg #[.int .i64 0, .int .i64 0]), 2, 16) := by kernel_rfl
theorem clone_empty (a : Addr) (c : Nat) (w : World) : Calls Tryz.prog 117 #[.slice (some a) 0 c] w fun e w' => ∃ v', e = .returned v' ∧ OwnX w.heap.size w' v' [] ∧ Below w.heap.size w w' := by
  have hi := infoExt
  cases hj : Tryz.prog.info? 55 with
  | none => rw [hj] at hi; cases hi
  | some i0 =>
    rw [hj] at hi
    simp only [Option.map_some, Option.some.injEq, Prod.mk.injEq] at hi
    have HI := Lib.hid (And.intro hj hi)
    have heq := fun W : World => Lib.run_eql_slice_nil (P := Tryz.prog) W 23 55 (some a) 0 c 0 0 Tryz.underlying23
    clear hj hi
    go_enter Tryz.func117, Tryz.ntmps117
    go_wp2_with (at_builtin; refine wpList_append_own _ rfl _ _ 23 rfl w.heap.size 55 i0 (.agg #[.int .i64 0, .int .i64 0]) 2 16 Tryz.underlying23 HI.out.1 HI.out.2.1 HI.out.2.2.1 HI.out.2.2.2 rfl (by decide) (.slice (some ⟨w.heap.size, 0, none⟩) 0 0) 0 [] rfl (World.ownsRow_made w #[] 0 (Nat.le_refl _) (Nat.zero_le _) (by simp)) a 0 c [] rfl rfl (fun j u hu => by cases hu) (fun u hu => by cases hu) (by decide) (by omega) (by simp) ?_; intro v' w1 hown hgr _)
    go_ret
    refine ⟨_, rfl, hown, ((Below.refl _ w).alloc (Nat.le_refl _) _).grown hgr (by simp) fun k hk => ?_⟩
    have : k = w.heap.size := by simpa [Value.ownBlock] using hk.symm
    omega
theorem clone_any {w : World} {v : Value} {l : List X} (h : Rd w v l) (hl : l.length ≤ 4000) : Calls Tryz.prog 117 #[v] w fun e w' => ∃ v', e = .returned v' ∧ OwnX w.heap.size w' v' l ∧ Below w.heap.size w w' := by
  rcases h with ⟨p, c, rfl, rfl, _⟩ | ⟨b, off, c, rfl, hlt, hc⟩
  · cases p with
    | none =>
      have := AnyE.slices_Clone_nil layClone 0 c w
      refine Calls.mono (f := 117) this ?_
      rintro e w' ⟨rfl, rfl⟩
      exact ⟨_, rfl, OwnX.nil _ _, Below.refl _ _⟩
    | some a => exact clone_empty a c w
  · have hi := infoExt
    cases hj : Tryz.prog.info? 55 with
    | none => rw [hj] at hi; cases hi
    | some i0 =>
      rw [hj] at hi
      simp only [Option.map_some, Option.some.injEq, Prod.mk.injEq] at hi
      have := AnyE.slices_Clone layClone i0 (.agg #[.int .i64 0, .int .i64 0]) 2 16 hj hi.1 hi.2.1 hi.2.2 rfl (by decide) Tryz.sizeOf55 b off l.length c (fl l) w (fl_length l) (by unfold maxLen; omega) (by omega)
        (fun j u hu => by
          have hj2 : j < l.length * 2 := by rw [← fl_length]; exact (List.getElem?_eq_some_iff.1 hu).1
          have h1 := fl_at l (j / 2) (by omega)
          have h2 := hc (j / 2) (by omega)
          rcases Nat.mod_two_eq_zero_or_one j with hm | hm
          · have e : j / 2 * 2 = j := by omega
            rw [e] at h1 h2
            rw [h1.1] at hu; cases hu
            exact h2.1
          · have e : j / 2 * 2 + 1 = j := by omega
            rw [Nat.add_assoc, e] at h2
            rw [e] at h1
            rw [h1.2] at hu; cases hu
            exact h2.2)
        (fl_one l)
      refine Calls.mono (f := 117) this ?_
      rintro e w' ⟨v', rfl, h1, _, h2⟩
      exact ⟨v', rfl, h1, h2⟩

theorem cf_neg (x y : X) : cf x y < 0 ↔ x.1 < y.1 := by
  unfold cf
  split
  · rename_i h; exact ⟨fun _ => h, fun _ => by omega⟩
  · rename_i h
    split
    · exact ⟨fun h => by omega, fun h2 => absurd h2 h⟩
    · exact ⟨fun h => by omega, fun h2 => absurd h2 h⟩
theorem lt_cf (x y : X) : ltOf cf x y = decide (x.1 < y.1) := decide_eq_decide.2 (cf_neg x y)
theorem cf_swo : SWO (ltOf cf) where
  irrefl x := by rw [lt_cf]; simp
  trans x y z h1 h2 := by
    rw [lt_cf, decide_eq_true_eq] at *
    omega
  ntrans x y z h1 h2 := by
    rw [lt_cf, decide_eq_false_iff_not] at *
    omega
theorem elt37 : Elt Tryz.prog laySortFunc_ren 2 := ⟨Tryz.isAgg55, Tryz.sizeOf55⟩
theorem enc_cell (x : X) : (encX x)[0]! = .int .i64 x.1 ∧ (encX x)[1]! = .int .i64 x.2 := ⟨rfl, rfl⟩
theorem flat_fl (l : List X) : flatK encX 2 l.toArray = (fl l).toArray := by
  refine ext_get! (by simp [fl_length]) fun t ht => ?_
  have ht' : t < l.length * 2 := by simpa using ht
  rw [get_flatK _ _ _ _ (by simpa using ht')]
  have h1 := fl_at l (t / 2) (by omega)
  have e0 : l.toArray[t / 2]! = l[t / 2]! := by simp
  rw [e0]
  have ht2 : t < (fl l).length := by rw [fl_length]; exact ht'
  have e1 : ((fl l).toArray)[t]! = (fl l)[t]! := by simp
  rw [e1]
  rcases Nat.mod_two_eq_zero_or_one t with hm | hm
  · rw [hm, (enc_cell _).1]
    have h2 := h1.1
    rw [show t / 2 * 2 = t by omega] at h2
    rw [getElem!_pos (fl l) t ht2]
    rw [List.getElem?_eq_getElem ht2] at h2
    exact (Option.some.inj h2).symm
  · rw [hm, (enc_cell _).2]
    have h2 := h1.2
    rw [show t / 2 * 2 + 1 = t by omega] at h2
    rw [getElem!_pos (fl l) t ht2]
    rw [List.getElem?_eq_getElem ht2] at h2
    exact (Option.some.inj h2).symm
theorem below_sw {w w' : World} {blk off B : Nat} {d : Array X} (h : SWK encX 2 w blk off d w') (hb : B ≤ blk) (hB : B ≤ w.heap.size) : Below B w w' := by
  obtain ⟨n, os, rfl⟩ := h
  unfold sortWorldK
  refine ⟨rfl, rfl, rfl, ?_, fun k hk => ?_⟩
  · rw [size_grow, size_putRowK]; exact Nat.le_add_right _ _
  · rw [heap_grow_old _ _ (by rw [size_putRowK]; show k < w.heap.size; omega)]
    simp [putRowK, putRow, mapBlock, Sort.ahead, Array.getElem?_modify, show blk ≠ k by omega]
theorem sort_any {base : Nat} {w : World} {v : Value} {l : List X} (h : OwnX base w v l) (hB : base ≤ w.heap.size) (hl : l.length ≤ 4000) :
    Calls Tryz.prog 69 #[v, .func (.func 119) #[.func (.func 118) #[] #[]] #[]] w fun e w' => e = .returned (.tuple #[]) ∧ Below base w w' ∧ ∃ s, RdS w' v s ∧ s.Perm l ∧ Inc s ∧ ∀ g, v.ownBlock = some g → base ≤ g := by
  have hown : ∀ g, v.ownBlock = some g → base ≤ g := fun g hg => (World.ownsRow.lt h g hg).1
  cases l with
  | nil =>
    obtain ⟨p, c, rfl⟩ := h.rd.len
    have := AnyF.slices_SortFunc_none laySortFunc p c (.func (.func 119) #[.func (.func 118) #[] #[]] #[]) w
    refine Calls.mono (f := 69) this ?_
    rintro e w' ⟨rfl, rfl⟩
    exact ⟨rfl, Below.refl _ _, [], h.rds, .refl _, .nil, hown⟩
  | cons x0 l0 =>
    generalize hL : x0 :: l0 = l at *
    have hpos : l.length ≠ 0 := by rw [← hL]; simp
    clear hL
    obtain ⟨h1, ⟨rfl, h2⟩ | ⟨g, cap, cur, rfl, hb, hg, hn, hcap, hcur, htake⟩⟩ := h
    · exact absurd h2 hpos
    · have hglt : g < w.heap.size := (Array.getElem?_eq_some_iff.1 hg).1
      have hH : HoldsK encX 2 w g 0 l.toArray := by
        unfold HoldsK
        rw [flat_fl]
        intro j hj
        have hj' : j < (fl l).length := by simpa using hj
        refine ⟨?_, by simp [World.frozen?, hg]⟩
        have hc := World.ownsRow.cells (⟨h1, .inr ⟨g, cap, cur, rfl, hb, hg, hn, hcap, hcur, htake⟩⟩ : w.ownsRow base 55 2 (.slice (some ⟨g, 0, none⟩) l.length cap) l.length (fl l)) rfl j (fl l)[j] (List.getElem?_eq_getElem hj')
        rw [Addr.add_lit] at hc
        rw [hc]
        simp [hj']
      have M : Srt Tryz.prog encX 2 cf 119 #[.func (.func 118) #[] #[]] #[] w g 0 l.toArray :=
        { R := ⟨fun _ => rfl, fun x v hv => by simp [encX] at hv; rcases hv with rfl | rfl <;> rfl, hH, hglt⟩
          hO := cf_swo
          hsz := by simp; omega
          eg := enters_of Tryz.func119 (by kernel_rfl) rfl
          says := fun d W _ _ x y => compare_any x y W }
      have := sv_sort laySortFunc elt37 (cap := cap) M
      rw [List.size_toArray] at this
      refine Calls.mono (f := 69) this ?_
      rintro e w' ⟨rfl, d', ⟨hp, hs⟩, S⟩
      have hsz : d'.size = l.length := by rw [hp.1]; simp
      have hH' := S.holds hglt hH (by rw [hsz]; simp)
      refine ⟨rfl, below_sw S hb (by omega), d'.toList, .inr ⟨g, 0, cap, by simp [hsz], S.lt hglt, fun j hj => ?_⟩, ?_, ?_, hown⟩
      · have hj' : j < d'.size := by simpa using hj
        have a := (hH'.cell hj' (show 0 < 2 by omega)).1
        have b := (hH'.cell hj' (show 1 < 2 by omega)).1
        rw [(enc_cell _).1, Nat.add_zero] at a
        rw [(enc_cell _).2] at b
        have e0 : d'.toList[j]! = d'[j]! := by rw [getElem!_pos d' j hj', getElem!_pos d'.toList j (by simpa using hj')]; simp
        rw [e0]
        exact ⟨a, b⟩
      · have hperm := hp.2.2
        rw [show (d'.extract 0 l.length) = d' by rw [← hsz]; simp, show (l.toArray.extract 0 l.length) = l.toArray by simp] at hperm
        simpa using hperm
      · refine List.pairwise_iff_getElem.2 fun i j hi hj hij => ?_
        have hj' : j < d'.size := by simpa using hj
        have := hs i j (Nat.zero_le _) hij (by omega)
        rw [lt_cf, decide_eq_false_iff_not, getElem!_pos d' i (by omega), getElem!_pos d' j hj'] at this
        simp only [Array.getElem_toList]
        omega

theorem sorted_any {w : World} {v : Value} {l : List X} (h : Rd w v l) (hl : l.length ≤ 4000) :
    Calls Tryz.prog 96 #[v] w fun e w' => ∃ v' s, e = .returned v' ∧ RdS w' v' s ∧ s.Perm l ∧ Inc s ∧ Below w.heap.size w w' ∧ ∀ g, v'.ownBlock = some g → w.heap.size ≤ g := by
  have c1 := clone_any h hl
  have C2 := Lib.hid fun (v' : Value) (w' : World) (h1 : OwnX w.heap.size w' v' l) (h2 : Below w.heap.size w w') => sort_any h1 h2.size hl
  clear h
  go_enter Tryz.func96, Tryz.ntmps96
  go_wp2_with (first
    | (go_at_call 117; refine c1.mono ?_; rintro e w1 ⟨v1, rfl, h1, hb1⟩; clear c1; have c2 := C2.out v1 w1 h1 hb1; have HB1 := Lib.hid hb1; clear h1 hb1)
    | (go_at_call 69; refine c2.mono ?_; rintro e w2 ⟨rfl, hb2, s, h3, h4, h5, h6⟩; have H3 := Lib.hid (And.intro hb2 (And.intro h3 (And.intro h4 (And.intro h5 h6)))); clear hb2 h3 h4 h5 h6 c2))
  go_ret
  obtain ⟨hb2, h3, h4, h5, h6⟩ := H3.out
  exact ⟨_, s, rfl, h3, h4, h5, HB1.out.trans hb2, h6⟩
end Go.Proofs.YtkjffoebcblpoaaGreat.gn
end
section
set_option linter.unusedVariables false
namespace Go.Proofs.YtkjffoebcblpoaaGreat.gn
open Go.RowKit Go.Shelf Go.Sort Go.Lib
open Go.Proofs.YtkjffoebcblpoaaGreat.ex

attribute [local go_sem] Oper.semAt_some

/-- It answers yes or no, and makes memory. -/
def TellsB (b : Bool) (w : World) (e : Ending) (w' : World) : Prop := e = .returned (.bool b) ∧ Below w.heap.size w w'
def Tells (n : Int) (w : World) (e : Ending) (w' : World) : Prop := e = .returned (.int .i64 n) ∧ Below w.heap.size w w'
theorem of_any (n : Int) (w : World) : Calls Tryz.prog 95 #[.int .i64 n] w fun e w' => e = .returned (.int .i64 (min (max n 0) 1099511627776)) ∧ w' = w := by
  go_enter Tryz.func95, Tryz.ntmps95
  go_wp2
  go_ret
  exact ⟨rfl, rfl⟩
def quant (n : Int) : Bool := decide (0 ≤ n ∧ n ≤ 1099511627776)
theorem quantity_any (n : Int) (w : World) : Calls Tryz.prog 83 #[.int .i64 n] w fun e w' => e = .returned (.bool (quant n)) ∧ w' = w := by
  have hq : (n == min (max n 0) 1099511627776) = quant n := by
    unfold quant
    rw [Bool.eq_iff_iff, beq_iff_eq, decide_eq_true_iff]
    omega
  have h := of_any n w
  generalize min (max n 0) 1099511627776 = m at *
  go_enter Tryz.func83, Tryz.ntmps83
  go_wp2_with (go_at_call 95; refine h.mono ?_; rintro e w' ⟨rfl, rfl⟩)
  go_ret
  exact ⟨by first | rfl | rw [hq], rfl⟩

theorem apL_cons (next : Int) (x : X) (l : List X) : apL next (x :: l) = if x.1 < next then false else apL (x.1 + x.2) l := rfl
theorem ok_at {l : List X} (h : Ok l) {j : Nat} (hj : j < l.length) : okx l[j]! := by rw [getElem!_pos l j hj]; exact h _ (List.getElem_mem hj)
theorem drop_at {l : List X} {k : Nat} (h : k < l.length) : l.drop k = l[k]! :: l.drop (k + 1) := by rw [getElem!_pos l k h, List.drop_eq_getElem_cons h]

set_option maxHeartbeats 2000000 in
set_option maxRecDepth 100000 in
theorem apart_any {w : World} {v : Value} {l : List X} (h : Rd w v l) (hl : l.length ≤ 4000) (ho : Ok l) :
    Calls Tryz.prog 85 #[v] w (TellsB (decide (Apart l)) w) := by
  have c1 := sorted_any h hl
  have HL := Lib.hid (And.intro hl ho)
  clear h hl ho
  generalize hd : decide (Apart l) = ans
  have HD := Lib.hid hd
  clear hd
  go_enter Tryz.func85, Tryz.ntmps85
  go_upto_region 3 with (go_at_call 96; refine c1.mono ?_; rintro e w1 ⟨v1, s, rfl, h1, hp, hi, hb1, _⟩; clear c1; obtain ⟨p1, cp1, hv1⟩ := h1.rd.len; subst hv1; have H1 := Lib.hid (And.intro h1 (And.intro hb1 (And.intro hp hi))); clear h1 hb1 hp hi)
  obtain ⟨h1, hb1, hp, hi⟩ := H1.out
  have hsl : s.length ≤ 4000 := by rw [hp.length_eq]; exact HL.out.1
  have hos := (ok_perm hp).2 HL.out.2
  have hans : apL 0 s = ans := by rw [← HD.out]; exact apL_apart hp hi HL.out.2
  have HA := Lib.hid hans
  have HO := Lib.hid hos
  have HB := Lib.hid hb1
  have HR := Lib.hid h1
  clear hans hos hb1 h1 hp hi H1
  go_loopw [3, 9] (fun s3 s9 wr => ∃ (k : Nat) (next : Int), s3 = .int .i64 next ∧ s9 = .int .i64 k ∧ k ≤ s.length ∧ Aside (Below w1.heap.size w1 wr) ∧ Aside (apL next (s.drop k) = ans))
    (fun _ s9 _ => s.length - (intOf s9).toNat)
  case atStart => exact ⟨0, 0, rfl, rfl, Nat.zero_le _, Below.refl _ _, HA.out⟩
  case round =>
    obtain ⟨k, next, rfl, rfl, hk, hb, ha⟩ := hrel
    by_cases hlt : k < s.length
    · have hrd : RdS wr (.slice p1 s.length cp1) s := HR.out.below hb.out (Nat.le_refl _)
      rcases hrd with ⟨he, _⟩ | ⟨b, off, c, he, hbl, hc⟩
      · exfalso; simp only [Value.slice.injEq] at he; omega
      · simp only [Value.slice.injEq, true_and] at he
        obtain ⟨rfl, rfl⟩ := he
        have hck := hc k hlt
        have hox := ok_at HO.out hlt
        rw [drop_at hlt] at ha
        have HA2 := Lib.hid ha.out
        clear hc ha
        generalize s[k]! = x at *
        obtain ⟨x1, x2⟩ := x
        have c0 := hck.1
        have c1 := hck.2
        dsimp only at c0 c1
        unfold okx at hox
        dsimp only at hox
        have HX := Lib.hid hox
        have cE := fun W => end_any (x1, x2) W (by unfold Sml; dsimp only; omega)
        dsimp only at cE
        clear hck hox
        by_cases hn : x1 < next
        · have HN := Lib.hid hn
          have hd : decide (x1 < next) = true := decide_eq_true hn
          clear hn
          go_wp2
          go_ret
          refine ⟨?_, ?_⟩
          · have := HA2.out
            rw [apL_cons, if_pos (show ((x1, x2) : X).1 < next from HN.out)] at this
            rw [← this]; rfl
          · exact HB.out.trans ((hb.out.mono HB.out.size).alloc (Nat.le_trans HB.out.size hb.out.size) _)
        · have HN := Lib.hid hn
          have hd : decide (x1 < next) = false := decide_eq_false hn
          clear hn
          go_wp2_with (go_at_call 84; refine (cE _).mono ?_; rintro e w' ⟨rfl, rfl⟩)
          go_roundw
          case rel =>
            refine ⟨k + 1, _, rfl, by go_num, by omega, ?_, ?_⟩
            · exact (hb.out.alloc hb.out.size _).alloc (Nat.le_trans hb.out.size (by simp)) _
            · have := HA2.out
              rw [apL_cons, if_neg (show ¬ ((x1, x2) : X).1 < next from by have := HN.out; show ¬ x1 < next; omega)] at this
              exact this
          case measure => simp [intOf]; omega
    · have hks : k = s.length := by omega
      subst hks
      have HA2 := Lib.hid ha.out
      clear ha
      go_wp2
      go_ret
      refine ⟨?_, HB.out.trans (hb.out.mono HB.out.size)⟩
      have := HA2.out
      rw [List.drop_length] at this
      rw [← this]; rfl
end Go.Proofs.YtkjffoebcblpoaaGreat.gn
end
section
set_option linter.unusedVariables false
namespace Go.Proofs.YtkjffoebcblpoaaGreat.gn
open Go.RowKit

/-- A value reads as itself. -/
def hR (v : Value) : Option (DataW Value × List MemPlace) := some (.held v, [])
theorem hR_inv {v u : Value} {ps : List MemPlace} (h : hR v = some (.held u, ps)) : v = u := by
  unfold hR at h
  simp only [Option.some.injEq, Prod.mk.injEq, DataW.held.injEq] at h
  exact h.1
def datV (L : List (List UInt8 × Value)) : DataW Value := .map (L.map fun p => (.string p.1, .held p.2))
theorem datV_ins (k : List UInt8) (v : Value) : ∀ L : List (List UInt8 × Value), (fi.ins (k, v) L).map (fun p => (Lit.string p.1, (DataW.held p.2 : DataW Value))) = DataW.insert (.string k, .held v) (L.map fun p => (.string p.1, .held p.2))
  | [] => rfl
  | y :: r => by
    unfold fi.ins
    have := datV_ins k v r
    cases h : bytesBefore k y.1 with
    | true => simp [DataW.insert, Lit.before, h]
    | false => simp [DataW.insert, Lit.before, h, this]
theorem datV_del (k : List UInt8) (L : List (List UInt8 × Value)) : (fi.del k L).map (fun p => (Lit.string p.1, (DataW.held p.2 : DataW Value))) = (L.map fun p => (Lit.string p.1, (DataW.held p.2 : DataW Value))).filter fun p => !p.1.sameKey (.string k) := by
  unfold fi.del
  rw [List.filter_map]
  rfl
theorem datV_put (k : List UInt8) (v : Value) (L : List (List UInt8 × Value)) : (datV L).put (.string k) (.held v) = datV (fi.put k v L) := by
  show DataW.map (DataW.insert _ ((L.map _).filter fun p => !p.1.sameKey (.string k))) = .map _
  rw [← datV_del, ← datV_ins]
  rfl
theorem datV_cut (k : List UInt8) (L : List (List UInt8 × Value)) : (datV L).del (.string k) = datV (fi.del k L) := by
  show DataW.map ((L.map _).filter fun p => !p.1.sameKey (.string k)) = .map _
  rw [← datV_del]
theorem find_datV (k : List UInt8) (L : List (List UInt8 × Value)) : (L.map fun p => (Lit.string p.1, (DataW.held p.2 : DataW Value))).find? (fun p => p.1.sameKey (.string k)) = (L.find? fun p => p.1 == k).map fun p => (.string p.1, .held p.2) := by
  rw [List.find?_map]
  rfl
theorem datV_at (k : List UInt8) (z : Value) (L : List (List UInt8 × Value)) : (datV L).atKey (.string k) (.held z) = .held ((fi.get k L).getD z) := by
  simp only [datV, DataW.atKey, find_datV, fi.get]
  cases L.find? fun p => p.1 == k <;> rfl
theorem datV_has (k : List UInt8) (L : List (List UInt8 × Value)) : Maps.has (datV L) (.string k) = (fi.get k L).isSome := by
  show (L.map fun p => (Lit.string p.1, (DataW.held p.2 : DataW Value))).any (fun p => p.1.sameKey (.string k)) = _
  have h := find_datV k L
  rw [Bool.eq_iff_iff, List.any_eq_true, ← List.find?_isSome, h]
  unfold fi.get
  cases L.find? fun p => p.1 == k <;> simp
theorem datV_size (L : List (List UInt8 × Value)) : Maps.size (datV L) = L.length := by simp [datV, Maps.size]
theorem get_put (j k : List UInt8) (v : Value) (L : List (List UInt8 × Value)) : fi.get j (fi.put k v L) = if j = k then some v else fi.get j L := by
  by_cases h : j = k
  · rw [if_pos h, h, fi.get_put_same]
  · rw [if_neg h, fi.get_put_other h]
theorem get_del (j k : List UInt8) (L : List (List UInt8 × Value)) : fi.get j (fi.del k L) = if j = k then none else fi.get j L := by
  by_cases h : j = k
  · rw [if_pos h, h, fi.get_del_same]
  · rw [if_neg h, fi.get_del_other h]

theorem keyStr : Go.Maps.Keyed Tryz.prog 9 := Go.Maps.string_keyed Tryz.underlying9
theorem keyS {l : List UInt8} (h : l.length ≤ maxLen) : keyOf Tryz.prog 9 (.string (str l)) = some (.string l) := by
  have := Go.WideMaps.keyOf_string_mk (P := Tryz.prog) Tryz.underlying9 (s := str l) (by rw [str_size]; exact h)
  simpa [str] using this

/-- Block b is the map of these names and values. -/
def MapV (w : World) (b : Nat) (L : List (List UInt8 × Value)) : Prop := ∃ n, w.ownsMap Tryz.prog 9 hR b n (datV L)
theorem MapV.exact {w : World} {b : Nat} {L : List (List UInt8 × Value)} (h : MapV w b L) : w.ownsMap Tryz.prog 9 hR b L.length (datV L) := by
  obtain ⟨n, es, clock, hb, F, _, hD⟩ := h
  refine ⟨es, clock, hb, F, ?_, hD⟩
  have h1 := congrArg Maps.size hD
  rw [datV_size] at h1
  simp only [Maps.size, length_sorted, List.length_map, Array.length_toList] at h1
  omega
theorem MapV.lt {w : World} {b : Nat} {L : List (List UInt8 × Value)} (h : MapV w b L) : b < w.heap.size := by
  obtain ⟨n, hn⟩ := h
  exact World.ownsMap.lt hn
theorem MapV.kept {w w' : World} {b : Nat} {L : List (List UInt8 × Value)} (h : MapV w b L) (hb : w'.heap[b]? = w.heap[b]?) : MapV w' b L := by
  obtain ⟨n, es, clock, h1, h2⟩ := h
  exact ⟨n, es, clock, hb.trans h1, h2⟩
theorem MapV.next {w w' : World} {b : Nat} {L : List (List UInt8 × Value)} (h : MapV w b L) (hb : Below w.heap.size w w') : MapV w' b L := h.kept (hb.block b h.lt)
theorem MapV.but {R : Nat} {w w' : World} {b : Nat} {L : List (List UInt8 × Value)} (h : MapV w b L) (hb : But R w w') (hne : b ≠ R) : MapV w' b L := h.kept (hb.block b h.lt (fun e => hne (Option.some.inj e)))
theorem MapV.drew {w : World} {b : Nat} {L : List (List UInt8 × Value)} (h : MapV w b L) : MapV w.drew b L := h
theorem MapV.new (w : World) : MapV (w.alloc (.map #[] 0)) w.heap.size [] := ⟨0, World.ownsMap_made w _ _ _⟩
theorem MapV.look {w : World} {b : Nat} {L : List (List UInt8 × Value)} (h : MapV w b L) {t e : TypeId} (ht : Tryz.prog.underlying t = some (.map 9 e)) {z : Value} (hz : (zeroValue e).run Tryz.prog w = .ok z w) {k : List UInt8} (hk : k.length ≤ maxLen) :
    (Instr.lookup t (.map (some b)) (.string (str k)) false).run Tryz.prog w = .ok ((fi.get k L).getD z) w := by
  obtain ⟨n, hn⟩ := h
  obtain ⟨v, ps, hrun, hv⟩ := hn.lookup keyStr ht hz (show hR z = some (.held z, []) from rfl) (keyS hk)
  rw [datV_at] at hv
  rw [hrun, hR_inv hv]
theorem MapV.look_ok {w : World} {b : Nat} {L : List (List UInt8 × Value)} (h : MapV w b L) {t e : TypeId} (ht : Tryz.prog.underlying t = some (.map 9 e)) {z : Value} (hz : (zeroValue e).run Tryz.prog w = .ok z w) {k : List UInt8} (hk : k.length ≤ maxLen) :
    (Instr.lookup t (.map (some b)) (.string (str k)) true).run Tryz.prog w = .ok (.tuple #[(fi.get k L).getD z, .bool (fi.get k L).isSome]) w := by
  obtain ⟨n, hn⟩ := h
  obtain ⟨v, ps, hrun, hv⟩ := hn.look_ok keyStr ht hz (show hR z = some (.held z, []) from rfl) (keyS hk)
  rw [datV_at] at hv
  rw [hrun, hR_inv hv, datV_has]
theorem MapV.put {w : World} {b : Nat} {L : List (List UInt8 × Value)} (h : MapV w b L) {t e : TypeId} (ht : Tryz.prog.underlying t = some (.map 9 e)) {k : List UInt8} (hk : k.length ≤ maxLen) (hL : L.length < maxLen) (v : Value) :
    ∃ w', (Instr.mapUpdate t (.map (some b)) (.string (str k)) v).run Tryz.prog w = .ok () w' ∧ MapV w' b (fi.put k v L) ∧ But b w w' := by
  obtain ⟨w', hrun, h1, h2⟩ := h.exact.update keyStr ht hL (keyS hk) (show hR v = some (.held v, []) from rfl)
  exact ⟨w', hrun, ⟨_, by rw [← datV_put]; exact h1⟩, h2⟩
theorem MapV.put2 {w : World} {b n : Nat} {L : List (List UInt8 × Value)} (h : MapV w b L) (hn : L.length ≤ n) {t e : TypeId} (ht : Tryz.prog.underlying t = some (.map 9 e)) {k : List UInt8} (hk : k.length ≤ maxLen) (hL : n < 1000) (v : Value) :
    ∃ w' L', (Instr.mapUpdate t (.map (some b)) (.string (str k)) v).run Tryz.prog w = .ok () w' ∧ MapV w' b L' ∧ L'.length ≤ n + 1 ∧ (∀ j, fi.get j L' = if j = k then some v else fi.get j L) ∧ But b w w' := by
  obtain ⟨w', h1, h2, h3⟩ := h.put ht hk (show L.length < maxLen by unfold maxLen; omega) v
  exact ⟨w', _, h1, h2, Nat.le_trans (fi.put_length k v) (by omega), fun j => get_put j k v L, h3⟩
theorem mapTurned_but {w w' : World} {b : Nat} (h : w.mapTurned w' b) : But b w w' := by
  obtain ⟨es, c, es', c', hb, rfl⟩ := h
  exact ⟨rfl, rfl, rfl, by simp [Go.ChangeMaps.setBlock], fun i _ hi => Go.ChangeMaps.heap_setBlock_other hb _ fun e => hi (by rw [e])⟩
theorem MapV.del {w : World} {b : Nat} {L : List (List UInt8 × Value)} (h : MapV w b L) {t e : TypeId} (ht : Tryz.prog.underlying t = some (.map 9 e)) {k : List UInt8} (hk : k.length ≤ maxLen) (ty : TypeId) :
    ∃ w', (Builtin.delete_ #[t, 9] ty #[.map (some b), .string (str k)]).run Tryz.prog w = .ok (.tuple #[]) w' ∧ MapV w' b (fi.del k L) ∧ But b w w' := by
  obtain ⟨w', hrun, h1, h2⟩ := h.exact.drop keyStr ht (keyS hk) ty
  exact ⟨w', hrun, ⟨_, by rw [← datV_cut]; exact h1⟩, mapTurned_but h2⟩

/-- A range over the map b, by block r: left says whose turn is still to come. -/
def RngV (w : World) (b r : Nat) (L : List (List UInt8 × Value)) (left : Lit → Bool) (cnt : Nat) : Prop := w.ranges Tryz.prog 9 hR b r L.length (datV L) left cnt
theorem RngV.lt {w : World} {b r : Nat} {L : List (List UInt8 × Value)} {left : Lit → Bool} {cnt : Nat} (h : RngV w b r L left cnt) : r < w.heap.size := World.ranges.lt h
theorem RngV.map {w : World} {b r : Nat} {L : List (List UInt8 × Value)} {left : Lit → Bool} {cnt : Nat} (h : RngV w b r L left cnt) : MapV w b L := ⟨_, World.ranges.owns h⟩
theorem RngV.next {w w' : World} {b r : Nat} {L : List (List UInt8 × Value)} {left : Lit → Bool} {cnt : Nat} (h : RngV w b r L left cnt) (hb : Below w.heap.size w w') : RngV w' b r L left cnt :=
  World.ranges.kept h (row := none) ⟨hb.os, hb.tape, hb.output, hb.size, fun i hi _ => hb.block i hi⟩ (by simp) (by simp)
theorem RngV.left_eq {w : World} {b r : Nat} {L : List (List UInt8 × Value)} {left : Lit → Bool} {cnt : Nat} (h : RngV w b r L left cnt) : w.rangeLeft b r = cnt := World.ranges.left_eq h
theorem key_str2 {v : Value} {kl : Lit} (hk : keyOf Tryz.prog 9 v = some kl) : ∃ k : List UInt8, v = .string (str k) ∧ kl = .string k := by
  rw [keyOf_string Tryz.underlying9] at hk
  cases v <;> simp [mapKey, Tryz.underlying9] at hk
  obtain ⟨_, rfl⟩ := hk
  exact ⟨_, by rw [str_of], rfl⟩

/-- 'range m'. -/
theorem wpList_range_map (w : World) {ops : Array Oper} {rest : List Oper} {o : Oper} {a : Act} {Q : Exit → Act → World → Prop} (hg : o.guard = none) (m : Operand) (t e : TypeId) (hop : o.op = Op.range t m) (ht : Tryz.prog.underlying t = some (.map 9 e))
    (b : Nat) (L : List (List UInt8 × Value)) (hm : a.eval m = .map (some b)) (h : MapV w b L)
    (hK : ∀ w', RngV w' b w.heap.size L (fun kl => Maps.has (datV L) kl) L.length → Below w.heap.size w w' → w'.heap.size = w.heap.size + 1 → wpList Tryz.prog ops Q rest (a.put o.dst (.pointer (some ⟨w.heap.size, 0, none⟩))) w') :
    wpList Tryz.prog ops Q (o :: rest) a w := by
  refine wpList_range_own w hg m t hop 9 e keyStr ht hR b _ _ hm h.exact ?_
  intro w' h1 h2 h3
  rw [datV_size] at h1
  exact hK w' h1 ⟨h2.os, h2.tape, h2.output, h2.size, fun i hi => h2.block i hi (by simp)⟩ h3
/-- The step. -/
theorem wpList_next_map (w : World) {ops : Array Oper} {rest : List Oper} {o : Oper} {a : Act} {Q : Exit → Act → World → Prop} (hg : o.guard = none) (it : Operand) (hop : o.op = Op.next it false)
    (b r : Nat) (L : List (List UInt8 × Value)) (left : Lit → Bool) (cnt : Nat) (hit : a.eval it = .pointer (some ⟨r, 0, none⟩)) (h : RngV w b r L left cnt)
    (hDone : cnt = 0 → (∀ kl, left kl = false) → wpList Tryz.prog ops Q rest (a.put o.dst (.tuple #[.bool false])) w)
    (hMore : ∀ (k : List UInt8) (v : Value) (w' : World) (cnt' : Nat), fi.get k L = some v → left (.string k) = true → RngV w' b r L (fun z => left z && !z.sameKey (.string k)) cnt' → cnt' < cnt →
      But r w w' → w'.heap.size = w.heap.size → (Instr.entry (.pointer (some ⟨r, 0, none⟩))).run Tryz.prog w' = .ok (.tuple #[.string (str k), v]) w' →
      wpList Tryz.prog ops Q rest (a.put o.dst (.tuple #[.bool true, .string (str k), v])) w') :
    wpList Tryz.prog ops Q (o :: rest) a w := by
  refine wpList_plain hg fun K' hK' => ?_
  unfold Oper.wp
  rcases World.ranges.next h keyStr o.type with ⟨h0, hl, hrun⟩ | ⟨key, v, kl, y, w', cnt', hkey, hlk, hv, hat, hrun, hrg, hlt, hgr, hsz, hen⟩
  · simp [execOp, hop, hit, hrun, Result.andThen]
    exact hK' _ _ (hDone h0 hl)
  · obtain ⟨k, rfl, rfl⟩ := key_str2 hkey
    have hy : y = (.held v, []) := (Option.some.inj hv).symm
    subst hy
    have hp : fi.get k L = some v := by
      have h1 := hat (.held v)
      have h2 := hat (.held (.bool true))
      have h3 := hat (.held (.bool false))
      rw [datV_at] at h1 h2 h3
      cases hgk : fi.get k L with
      | some u =>
        rw [hgk] at h1
        simp only [Option.getD_some, DataW.held.injEq] at h1
        rw [h1]
      | none =>
        rw [hgk] at h2 h3
        simp only [Option.getD_none, DataW.held.injEq] at h2 h3
        rw [← h3] at h2
        cases h2
    simp [execOp, hop, hit, hrun, Result.andThen]
    exact hK' _ _ (hMore k v w' cnt' hp hlk hrg hlt hgr hsz hen)

/-- 'v, ok := m[k]', where k is there. -/
theorem wpList_look_yes (w : World) {ops : Array Oper} {rest : List Oper} {o : Oper} {a : Act} {Q : Exit → Act → World → Prop} (hg : o.guard = none) (m x : Operand) (t e : TypeId) (hop : o.op = Op.lookup t m x true) (ht : Tryz.prog.underlying t = some (.map 9 e))
    {z : Value} (hz : ∀ W, (zeroValue e).run Tryz.prog W = .ok z W) (b : Nat) (L : List (List UInt8 × Value)) (hm : a.eval m = .map (some b)) (h : MapV w b L) (k : List UInt8) (hx : a.eval x = .string (str k)) (hk : k.length ≤ maxLen) (v : Value) (hv : fi.get k L = some v)
    (hK : wpList Tryz.prog ops Q rest (a.put o.dst (.tuple #[v, .bool true])) w) :
    wpList Tryz.prog ops Q (o :: rest) a w := by
  refine wpList_plain hg fun K' hK' => ?_
  have hrun := h.look_ok ht (hz w) hk
  rw [hv] at hrun
  unfold Oper.wp
  simp [execOp, hop, hm, hx, hrun, Result.andThen]
  exact hK' _ _ hK
/-- 'v, ok := m[k]', where k is not there. -/
theorem wpList_look_no (w : World) {ops : Array Oper} {rest : List Oper} {o : Oper} {a : Act} {Q : Exit → Act → World → Prop} (hg : o.guard = none) (m x : Operand) (t e : TypeId) (hop : o.op = Op.lookup t m x true) (ht : Tryz.prog.underlying t = some (.map 9 e))
    {z : Value} (hz : ∀ W, (zeroValue e).run Tryz.prog W = .ok z W) (b : Nat) (L : List (List UInt8 × Value)) (hm : a.eval m = .map (some b)) (h : MapV w b L) (k : List UInt8) (hx : a.eval x = .string (str k)) (hk : k.length ≤ maxLen) (hv : fi.get k L = none)
    (hK : wpList Tryz.prog ops Q rest (a.put o.dst (.tuple #[z, .bool false])) w) :
    wpList Tryz.prog ops Q (o :: rest) a w := by
  refine wpList_plain hg fun K' hK' => ?_
  have hrun := h.look_ok ht (hz w) hk
  rw [hv] at hrun
  unfold Oper.wp
  simp [execOp, hop, hm, hx, hrun, Result.andThen]
  exact hK' _ _ hK
/-- 'delete(m, k)'. -/
theorem wpList_del_map (w : World) {ops : Array Oper} {rest : List Oper} {o : Oper} {a : Act} {Q : Exit → Act → World → Prop} (hg : o.guard = none) (m x : Operand) (t e : TypeId) (hop : o.op = Op.call { callee := Callee.builtin Builtin.delete, args := #[m, x], argTypes := #[t, 9] }) (ht : Tryz.prog.underlying t = some (.map 9 e))
    (b : Nat) (L : List (List UInt8 × Value)) (hm : a.eval m = .map (some b)) (h : MapV w b L) (k : List UInt8) (hx : a.eval x = .string (str k)) (hk : k.length ≤ maxLen)
    (hK : ∀ w', MapV w' b (fi.del k L) → But b w w' → wpList Tryz.prog ops Q rest (a.put o.dst (.tuple #[])) w') :
    wpList Tryz.prog ops Q (o :: rest) a w := by
  refine wpList_plain hg fun K' hK' => ?_
  obtain ⟨w', hrun, r1, r2⟩ := h.del ht hk o.type
  unfold Oper.wp
  simp [execOp, hop, resolve, invoke, builtin, hm, hx, hrun, Result.andThen]
  exact hK' _ _ (hK w' r1 r2)
/-- 'm[k] = v'. -/
theorem wpList_put_map (w : World) {ops : Array Oper} {rest : List Oper} {o : Oper} {a : Act} {Q : Exit → Act → World → Prop} (hg : o.guard = none) (m x y : Operand) (t e : TypeId) (hop : o.op = Op.mapUpdate t m x y) (ht : Tryz.prog.underlying t = some (.map 9 e))
    (b n : Nat) (L : List (List UInt8 × Value)) (hm : a.eval m = .map (some b)) (h : MapV w b L) (hn : L.length ≤ n) (hn2 : n < 1000) (k : List UInt8) (hx : a.eval x = .string (str k)) (hk : k.length ≤ maxLen) (v : Value) (hy : a.eval y = v)
    (hK : ∀ w' L', MapV w' b L' → L'.length ≤ n + 1 → (∀ j, fi.get j L' = if j = k then some v else fi.get j L) → But b w w' → wpList Tryz.prog ops Q rest (a.put o.dst undef) w') :
    wpList Tryz.prog ops Q (o :: rest) a w := by
  refine wpList_plain hg fun K' hK' => ?_
  obtain ⟨w', L', hrun, r1, r2, r3, r4⟩ := h.put2 hn ht hk hn2 v
  unfold Oper.wp
  simp [execOp, hop, hm, hx, hy, hrun, Result.andThen]
  exact hK' _ _ (hK w' L' r1 r2 r3 r4)
end Go.Proofs.YtkjffoebcblpoaaGreat.gn
end
