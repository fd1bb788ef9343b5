/- For any seat: strings as lists of bytes, slices of bytes that are owned, worlds that are as they were but for one block. -/
import Derived.Test.YtkjffoebcblpoaaGreatRows
import Derived.WalkKit
import Derived.ProofKit
import Derived.OwnWalk
import Derived.OneCell
import Derived.Lib.VarintMem
import Derived.Lib.Hide
import Derived.Laws.AppendOwnNone
import Derived.Laws.BytesString
import Derived.Laws.Rows
import Derived.Test.YtkjffoebcblpoaaGreatMExN
section
namespace Go.Proofs.YtkjffoebcblpoaaGreat.gn
open Go.RowKit

/-- A string of these bytes. -/
def str (l : List UInt8) : ByteArray := ⟨l.toArray⟩
theorem str_size (l : List UInt8) : (str l).size = l.length := by simp [str, ByteArray.size]
theorem str_toList (l : List UInt8) : (str l).toList = l := by rw [ByteArray.toList_eq]; rfl
theorem heap_setCell {w : World} {b j : Nat} {cs : Array Value} {t : TypeId} {fr : Nat × Nat} (h : w.heap[b]? = some (.cells cs t fr)) (u : Value) :
    (w.setCell ⟨b, j, none⟩ u).heap[b]? = some (.cells (cs.setIfInBounds j u) t fr) := by
  have hlt := lt_of_block h
  have h' : w.heap[b] = .cells cs t fr := by simpa [Array.getElem?_eq_getElem hlt] using h
  show (w.heap.modify b _)[b]? = _
  rw [Array.getElem?_eq_getElem (by simpa using hlt), Array.getElem_modify_self, h']
  rfl

/-- w' is w but for what lies in block R, and for new blocks. -/
def But (R : Nat) (w w' : World) : Prop := w.grownBy w' (some R)
theorem But.refl (R : Nat) (w : World) : But R w w := ⟨rfl, rfl, rfl, Nat.le_refl _, fun _ _ _ => rfl⟩
theorem But.trans {R : Nat} {a b c : World} (h : But R a b) (k : But R b c) : But R a c :=
  ⟨k.os.trans h.os, k.tape.trans h.tape, k.output.trans h.output, Nat.le_trans h.size k.size, fun i hi hr => (k.block i (Nat.lt_of_lt_of_le hi h.size) hr).trans (h.block i hi hr)⟩
theorem But.drew {R : Nat} {a b : World} (h : But R a b) : But R a b.drew := ⟨h.os, h.tape, h.output, h.size, h.block⟩
theorem But.alloc {R : Nat} {a b : World} (h : But R a b) (o : Obj) : But R a (b.alloc o) := h.trans (World.grownBy_alloc b o (some R))
theorem But.setCell {R : Nat} {a b : World} (h : But R a b) (j : Nat) (u : Value) : But R a (b.setCell ⟨R, j, none⟩ u) :=
  h.trans ⟨rfl, rfl, rfl, by simp [World.setCell], fun k _ hr => Below.heap_setCell _ _ _ _ (fun e => hr (by rw [e]))⟩
theorem But.cell {R : Nat} {a b : World} (h : But R a b) {p : Addr} {v : Value} (hc : a.cell? p = some v) (hne : p.block ≠ R) : b.cell? p = some v :=
  World.grownBy.cell h hc (fun e => hne (by simpa using e))

theorem Tryz.info5 : (Tryz.prog.info? 5).map (fun i => (i.zero, i.size, i.bytes)) = some (some (.int .u8 0), 1, 1) := by kernel_rfl

/-- v is a slice of bytes that owns the bytes l, in blocks from B on. -/
def Bs (w : World) (B : Nat) (v : Value) (l : List UInt8) : Prop := w.ownsRow B 5 1 v l.length (Lib.byteCells l)
theorem byteCells_len (l : List UInt8) : (Lib.byteCells l).length = l.length := by simp [Lib.byteCells]
theorem Bs_cases {w : World} {B : Nat} {v : Value} {l : List UInt8} (h : Bs w B v l) :
    (v = .slice none 0 0 ∧ l = []) ∨ ∃ g cap, v = .slice (some ⟨g, 0, none⟩) l.length cap ∧ g < w.heap.size ∧ B ≤ g ∧ l.length ≤ cap ∧ cap ≤ maxLen ∧ (∀ j u, (Lib.byteCells l)[j]? = some u → w.cell? ⟨g, j, none⟩ = some u) := by
  have hlt := h.lt
  have hcells := fun g => h.cells (g := g)
  rcases h.2 with ⟨rfl, hn⟩ | ⟨g, cap, cur, rfl, hb, hg, hle, hm, _⟩
  · exact .inl ⟨rfl, List.eq_nil_of_length_eq_zero hn⟩
  · refine .inr ⟨g, cap, rfl, (hlt g rfl).2, hb, hle, hm, fun j u hj => ?_⟩
    have hadd : (⟨g, 0, none⟩ : Addr).add j = ⟨g, j, none⟩ := by unfold Addr.add; split <;> simp_all
    have := hcells g rfl j u hj
    rwa [hadd] at this


theorem But.bs {R : Nat} {a b : World} {B : Nat} {v : Value} {l : List UInt8} (h : But R a b) (hs : Bs a B v l) (hne : v.ownBlock ≠ some R) : Bs b B v l := World.ownsRow.kept hs h (.inr hne)
theorem But.below {R B : Nat} {a b c : World} (h : But R b c) (hb : Below B a b) (hB : B ≤ b.heap.size) (hR : B ≤ R) : Below B a c := hb.grown h hB (fun k hk => by cases hk; exact hR)
theorem Below.bs {B B' : Nat} {a b : World} {v : Value} {l : List UInt8} (h : Below B a b) (hs : Bs a B' v l) (hv : ∀ k, v.ownBlock = some k → k < B) : Bs b B' v l := by
  refine ⟨hs.1, ?_⟩
  rcases hs.2 with hn | ⟨g, cap, cur, rfl, hb, hgg, rest⟩
  · exact .inl hn
  · exact .inr ⟨g, cap, cur, rfl, hb, (h.block g (hv g rfl)).trans hgg, rest⟩

theorem Bs_nil (w : World) (B : Nat) : Bs w B (.slice none 0 0) [] := World.ownsRow_nil w B _ 1
theorem str_take (r : List UInt8) (n : Nat) : (str r).extract 0 n = str (r.take n) := by
  apply ByteArray.ext
  simp [str]
theorem str_drop (r : List UInt8) (n : Nat) : (str r).extract n (str r).size = str (r.drop n) := by
  apply ByteArray.ext
  simp [str, ByteArray.size]
  exact List.take_of_length_le (by simp)
theorem str_app (p q : List UInt8) : str p ++ str q = str (p ++ q) := by
  apply ByteArray.ext
  simp [str]
theorem str_of (s : ByteArray) : str s.data.toList = s := by
  apply ByteArray.ext
  simp [str]
theorem str_inj {p q : List UInt8} (h : str p = str q) : p = q := by
  have h2 := congrArg (fun s => s.data.toList) h
  simpa [str] using h2
theorem str_at (l : List UInt8) (i : Nat) (h : i < (str l).size) : (str l)[i] = l[i]'(by rw [str_size] at h; exact h) := by
  simp [str]
  rfl
end Go.Proofs.YtkjffoebcblpoaaGreat.gn
end
section
set_option linter.unusedVariables false
namespace Go.Proofs.YtkjffoebcblpoaaGreat.ex

theorem apart_nums {l k : List X} (hl : Ok l) (hk : Ok k) (h1 : Apart l) (h2 : Apart k) (h : ∀ n, num n l → num n k → False) : Apart (l ++ k) :=
  (apart_append hl hk).2 ⟨h1, h2, fun n hn => h n hn.1 hn.2⟩
theorem apart_comm {l k : List X} : Apart (l ++ k) ↔ Apart (k ++ l) := apart_perm List.perm_append_comm
/-- What was taken (T) and the rest (R). -/
structure TF (a : List X) (n : Int) (T R : List X) : Prop where
  nT : Normal T
  nR : Normal R
  lT : T.length ≤ a.length + 1
  lR : R.length ≤ a.length
  dj : ∀ x, num x T → num x R → False
  nu : ∀ x, num x T ∨ num x R ↔ num x a
  tT : tot T = n
  tR : tot R = tot a - n
theorem TI.tf {a : List X} {n : Int} {s : St} (h : TI a n s) (h0 : ¬ 0 < s.n) : TF a n (nrm s.took) s.rest := by
  have hs := (apart_append h.nm.1 h.tkn).1 h.ap
  have hN := nrm_of h.tkn hs.2.1
  have hn0 : s.n = 0 := by have := h.lo; omega
  have hlen := h.ln
  rw [if_neg h0] at hlen
  refine ⟨hN.nrm, h.nm, ?_, h.rl, fun x h1 h2 => hs.2.2 x ⟨h2, (hN.num x).1 h1⟩, fun x => ?_, ?_, ?_⟩
  · have := hN.len; omega
  · rw [hN.num, ← h.nu, num_append]; exact Or.comm
  · rw [hN.tot]; have := h.nn; omega
  · have := h.tt; have := h.nn; omega
theorem TF.fT {a : List X} {n : Int} {T R : List X} (h : TF a n T R) (hl : a.length ≤ 900) : Fine T := ⟨by have := h.lT; omega, h.nT.1, h.nT.apart⟩
theorem TF.fR {a : List X} {n : Int} {T R : List X} (h : TF a n T R) (hl : a.length ≤ 900) : Fine R := ⟨by have := h.lR; omega, h.nR.1, h.nR.apart⟩
theorem TF.ap {a : List X} {n : Int} {T R : List X} (h : TF a n T R) : Apart (T ++ R) := apart_nums h.nT.1 h.nR.1 h.nT.apart h.nR.apart h.dj
/-- Rows that are apart, joined: as a, if they have its numbers. -/
theorem nrm_join {l k a : List X} (hl : Ok l) (hk : Ok k) (hlk : Apart (l ++ k)) (ho : Ok a) (ha : Apart a) (h : ∀ x, num x l ∨ num x k ↔ num x a) : nrm (l ++ k) = nrm a := by
  have hN := nrm_of ho ha
  exact nrm_eq (ok_append.2 ⟨hl, hk⟩) hlk hN.nrm fun n => by rw [hN.num, num_append, h]
theorem TF.back {a : List X} {n : Int} {T R : List X} (h : TF a n T R) (hf : Fine a) : nrm (R ++ T) = nrm a :=
  nrm_join h.nR.1 h.nT.1 (apart_comm.1 h.ap) hf.2.1 hf.2.2 fun x => by rw [← h.nu]; exact Or.comm
theorem nrm_fine {l : List X} (ho : Ok l) (ha : Apart l) (hl : l.length ≤ 1000) : Fine (nrm l) := by
  have h := nrm_of ho ha
  exact ⟨Nat.le_trans h.len hl, h.nrm.1, h.nrm.apart⟩
/-- Two that are given back, one after the other: T was taken from a, U from what was left. -/
structure TwoF (a : List X) (S T U : List X) : Prop where
  st : Apart (S ++ T)
  f1 : Fine (nrm (S ++ T))
  ap : Apart (nrm (S ++ T) ++ U)
  eq : nrm (nrm (S ++ T) ++ U) = nrm a
theorem two_of {a S T U : List X} (hf : Fine a) (hS : Normal S) (hT : Normal T) (hU : Normal U) (h1 : ∀ x, num x S → num x T → False) (h2 : ∀ x, num x S → num x U → False) (h3 : ∀ x, num x T → num x U → False)
    (h : ∀ x, num x S ∨ num x T ∨ num x U ↔ num x a) (hl : S.length + T.length ≤ 1000) : TwoF a S T U := by
  have st := apart_nums hS.1 hT.1 hS.apart hT.apart h1
  have ho := ok_append.2 ⟨hS.1, hT.1⟩
  have hN := nrm_of ho st
  have hX : ∀ x, num x (nrm (S ++ T)) ↔ num x S ∨ num x T := fun x => by rw [hN.num, num_append]
  have ap := apart_nums hN.nrm.1 hU.1 hN.nrm.apart hU.apart fun x h4 h5 => ((hX x).1 h4).elim (fun h => h2 x h h5) (fun h => h3 x h h5)
  refine ⟨st, nrm_fine ho st (by rw [List.length_append]; exact hl), ap, nrm_join hN.nrm.1 hU.1 ap hf.2.1 hf.2.2 fun x => ?_⟩
  rw [hX, ← h, or_assoc]
/-- And in the other order. -/
theorem TF.two {a : List X} {n m : Int} {T R U S : List X} (hf : Fine a) (h : TF a n T R) (k : TF R m U S) (hl : a.length ≤ 300) : TwoF a S T U ∧ TwoF a S U T := by
  have e1 : ∀ x, num x S → num x T → False := fun x h1 h2 => h.dj x h2 ((k.nu x).1 (.inr h1))
  have e2 : ∀ x, num x S → num x U → False := fun x h1 h2 => k.dj x h2 h1
  have e3 : ∀ x, num x T → num x U → False := fun x h1 h2 => h.dj x h1 ((k.nu x).1 (.inl h2))
  have l1 := h.lT
  have l2 := h.lR
  have l3 := k.lT
  have l4 := k.lR
  refine ⟨two_of hf k.nR h.nT k.nT e1 e2 e3 (fun x => ?_) (by omega), two_of hf k.nR k.nT h.nT e2 e1 (fun x h1 h2 => e3 x h2 h1) (fun x => ?_) (by omega)⟩
  · rw [← h.nu x, ← k.nu x]
    constructor
    · rintro (h | h | h)
      · exact .inr (.inr h)
      · exact .inl h
      · exact .inr (.inl h)
    · rintro (h | h | h)
      · exact .inr (.inl h)
      · exact .inr (.inr h)
      · exact .inl h
  · rw [← h.nu x, ← k.nu x]
    constructor
    · rintro (h | h | h)
      · exact .inr (.inr h)
      · exact .inr (.inl h)
      · exact .inl h
    · rintro (h | h | h)
      · exact .inr (.inr h)
      · exact .inr (.inl h)
      · exact .inl h
theorem meet_self {a : List X} (ho : Ok a) (h : a ≠ []) : ¬ Apart (a ++ a) := by
  intro ha
  obtain ⟨x, l, rfl⟩ := List.exists_cons_of_ne_nil h
  have hx := ho x List.mem_cons_self
  unfold okx at hx
  exact ((apart_append ho ho).1 ha).2.2 x.1 ⟨num_in (Int.le_refl _) (by omega), num_in (Int.le_refl _) (by omega)⟩
end Go.Proofs.YtkjffoebcblpoaaGreat.ex
end
