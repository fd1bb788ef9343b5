/- Tables of files in memory, several of them, with nothing in common but bytes that are written no more: what steps do to them. -/
import Derived.Test.YtpbgckpjgfjmgaaFiA
set_option linter.unusedVariables false
namespace Go.Proofs.Ytpbgckpjgfjmgaa.fi

section
variable {V : Type}
def Rising (l : List (Nm × V)) : Prop := l.Pairwise fun p q => bytesBefore p.1 q.1 = true
theorem before_self : ∀ a : List UInt8, bytesBefore a a = false
  | [] => rfl
  | x :: r => by simp [bytesBefore, before_self r]
theorem before_asymm : ∀ a b : List UInt8, bytesBefore a b = true → bytesBefore b a = true → False
  | [], [], h, _ => by simp [bytesBefore] at h
  | [], _ :: _, _, h => by simp [bytesBefore] at h
  | _ :: _, [], h, _ => by simp [bytesBefore] at h
  | x :: r, y :: s, h, h' => by
    simp only [bytesBefore, Bool.or_eq_true, Bool.and_eq_true, decide_eq_true_eq, beq_iff_eq] at h h'
    rcases h with h | ⟨rfl, h⟩
    · rcases h' with h' | ⟨rfl, _⟩
      · exact absurd h' (by simpa using (UInt8.le_of_lt h))
      · exact absurd h (by simp)
    · rcases h' with h' | ⟨_, h'⟩
      · exact absurd h' (by simp)
      · exact before_asymm r s h h'
theorem Rising.keyed {l : List (Nm × V)} (h : Rising l) : Keyed1 l := h.imp fun {a b} hab e => by rw [e, before_self] at hab; cases hab
theorem rising_ext : ∀ {a b : List (Nm × V)}, Rising a → Rising b → (∀ k, get k a = get k b) → a = b
  | [], [], _, _, _ => rfl
  | [], y :: s, _, _, h => by
    have := h y.1
    simp [get] at this
  | x :: r, [], _, _, h => by
    have := h x.1
    simp [get] at this
  | x :: r, y :: s, ha, hb, h => by
    have hka := ha.keyed
    have hkb := hb.keyed
    obtain ⟨a1, a2⟩ := List.pairwise_cons.1 ha
    obtain ⟨b1, b2⟩ := List.pairwise_cons.1 hb
    have hxy : x = y := by
      have e1 : (x.1, x.2) ∈ y :: s := get_some (by rw [← h]; simp [get])
      have e2 : (y.1, y.2) ∈ x :: r := get_some (by rw [h]; simp [get])
      rcases List.mem_cons.1 e1 with e1 | e1
      · exact e1
      · rcases List.mem_cons.1 e2 with e2 | e2
        · exact e2.symm
        · exact absurd (b1 _ e1) fun hh => before_asymm _ _ hh (a1 _ e2)
    subst hxy
    have hr : ∀ k, get k r = get k s := fun k => by
      by_cases hk : x.1 = k
      · have n1 : get k r = none := get_none.2 fun z hz e => (List.pairwise_cons.1 hka).1 z hz (by rw [hk, e])
        have n2 : get k s = none := get_none.2 fun z hz e => (List.pairwise_cons.1 hkb).1 z hz (by rw [hk, e])
        rw [n1, n2]
      · have := h k
        have hk' : (x.1 == k) = false := by simpa using hk
        simpa [get, List.find?_cons, hk'] using this
    rw [rising_ext a2 b2 hr]
theorem rising_map {V' : Type} {f : V → V'} {l : List (Nm × V)} (h : Rising l) : Rising (l.map fun p => (p.1, f p.2)) := by
  unfold Rising
  rw [List.pairwise_map]
  exact h
end
end Go.Proofs.Ytpbgckpjgfjmgaa.fi

namespace Go.Proofs.Ytpbgckpjgfjmgaa.gn
open Go.RowKit
open Go.Proofs.Ytpbgckpjgfjmgaa.fi

theorem Tab.rising {w : World} {b : Nat} {L : List (Nm × Nat)} (h : Tab w b L) : Rising L := by
  obtain ⟨n, es, clock, _, F, _, hD⟩ := h
  have hd : datL L = (es.toList.map (Go.WideElems.rg Try.prog 9 ptrR)).foldr DataW.insert [] := by simpa [dat] using hD
  have hs := Go.Maps.sorted_sorted keyLaw.one _ (Go.Maps.fit_keys F) (Go.Maps.fit_apart keyLaw F)
  rw [← hd] at hs
  unfold datL at hs
  rw [List.pairwise_map] at hs
  exact hs

/-- These bytes lie behind A, of which c may be written. -/
def Byt (w : World) (A : Option Addr) (n c : Nat) (l : List UInt8) : Prop :=
  l.length = n ∧ n ≤ c ∧ c ≤ maxLen ∧
  ((A = none ∧ c = 0) ∨ ∃ g cur, A = some ⟨g, 0, none⟩ ∧ w.heap[g]? = some (.cells cur 5 (0, 0)) ∧ c ≤ cur.size ∧ cur.toList.take n = Lib.byteCells l)
def BlkF (w : World) (p : Nat) (A : Option Addr) (n c : Nat) (d : Bool) : Prop := w.heap[p]? = some (.cells #[.slice A n c, .bool d] 76 (0, 0))
theorem Byt.kept {w w' : World} {A : Option Addr} {n c : Nat} {l : List UInt8} (h : Byt w A n c l) (hg : ∀ g, A = some ⟨g, 0, none⟩ → g < w.heap.size → w'.heap[g]? = w.heap[g]?) : Byt w' A n c l := by
  refine ⟨h.1, h.2.1, h.2.2.1, ?_⟩
  rcases h.2.2.2 with hn | ⟨g, cur, rfl, hh, rest⟩
  · exact .inl hn
  · exact .inr ⟨g, cur, rfl, (hg g rfl (lt_of_block hh)).trans hh, rest⟩
theorem Byt.lt {w : World} {A : Option Addr} {n c : Nat} {l : List UInt8} (h : Byt w A n c l) {g : Nat} (hg : A = some ⟨g, 0, none⟩) : ∃ cur, w.heap[g]? = some (.cells cur 5 (0, 0)) ∧ c ≤ cur.size ∧ cur.toList.take n = Lib.byteCells l := by
  rcases h.2.2.2 with ⟨rfl, _⟩ | ⟨g', cur, rfl, hh, rest⟩
  · cases hg
  · cases hg
    exact ⟨cur, hh, rest⟩
theorem Byt.form {w : World} {A : Option Addr} {n c : Nat} {l : List UInt8} (h : Byt w A n c l) : (A = none ∧ n = 0 ∧ c = 0 ∧ l = []) ∨ ∃ g, A = some ⟨g, 0, none⟩ := by
  rcases h.2.2.2 with ⟨rfl, hc⟩ | ⟨g', cur, rfl, _⟩
  · have hn : n = 0 := by have := h.2.1; omega
    exact .inl ⟨rfl, hn, hc, List.eq_nil_of_length_eq_zero (by rw [h.1]; exact hn)⟩
  · exact .inr ⟨g', rfl⟩
theorem Byt.clip {w : World} {A : Option Addr} {n c m : Nat} {l : List UInt8} (h : Byt w A n c l) (hm : m ≤ n) : Byt w A m m (l.take m) := by
  obtain ⟨h1, h2, h3, h4⟩ := h
  refine ⟨by rw [List.length_take]; omega, Nat.le_refl _, by omega, ?_⟩
  rcases h4 with ⟨rfl, hc⟩ | ⟨g, cur, rfl, hh, hs, ht⟩
  · exact .inl ⟨rfl, by omega⟩
  · refine .inr ⟨g, cur, rfl, hh, by omega, ?_⟩
    rw [show cur.toList.take m = (cur.toList.take n).take m by rw [List.take_take, Nat.min_eq_left hm], ht]
    simp [Lib.byteCells, List.map_take]

/-- What lies where: each map's names and files, each file's bytes, whose it is; how far each row of bytes is written, and which file writes on. -/
structure Lay where
  tab : Nat → List (Nm × Nat)
  cont : Nat → Fl
  own : Nat → Nat
  len : Nat → Nat
  tail : Nat → Nat
def FileOk (w : World) (X : Nat → Prop) (G : Lay) (b p : Nat) : Prop :=
  X p ∧ G.own p = b ∧ ∃ A n c, BlkF w p A n c (G.cont p).2 ∧ Byt w A n c (G.cont p).1 ∧ ∀ g, A = some ⟨g, 0, none⟩ → X g ∧ n ≤ G.len g ∧ (c = n ∨ (n = G.len g ∧ G.tail g = p))
def TabOk (w : World) (X : Nat → Prop) (G : Lay) (b : Nat) (T : Tb) : Prop :=
  X b ∧ Tab w b (G.tab b) ∧ (G.tab b).Pairwise (fun p q => p.2 ≠ q.2) ∧ T = (G.tab b).map (fun e => (e.1, G.cont e.2)) ∧ ∀ e ∈ G.tab b, FileOk w X G b e.2
def SysG (w : World) (X : Nat → Prop) (G : Lay) (TT : Nat → Option Tb) : Prop := ∀ b T, TT b = some T → TabOk w X G b T
/-- Tables in memory, of which X holds all blocks. -/
def SysT (w : World) (X : Nat → Prop) (TT : Nat → Option Tb) : Prop := ∃ G, SysG w X G TT
def upd {α : Type} (TT : Nat → Option α) (b : Nat) (T : α) : Nat → Option α := fun i => if i = b then some T else TT i
theorem upd_same {α : Type} (TT : Nat → Option α) (b : Nat) (T : α) : upd TT b T b = some T := by simp [upd]
theorem upd_other {α : Type} (TT : Nat → Option α) {b i : Nat} (T : α) (h : i ≠ b) : upd TT b T i = TT i := by simp [upd, h]
theorem upd_upd {α : Type} (TT : Nat → Option α) (b : Nat) (T T' : α) : upd (upd TT b T) b T' = upd TT b T' := by
  funext i
  unfold upd
  split <;> simp_all
theorem upd_self {α : Type} {TT : Nat → Option α} {b : Nat} {T : α} (h : TT b = some T) : upd TT b T = TT := by
  funext i
  unfold upd
  split
  · simp_all
  · rfl

theorem FileOk.kept {w w' : World} {X : Nat → Prop} {G : Lay} {b p : Nat} (h : FileOk w X G b p) (hk : ∀ i, i < w.heap.size → X i → w'.heap[i]? = w.heap[i]?) : FileOk w' X G b p := by
  obtain ⟨hx, ho, A, n, c, hb, hy, hg⟩ := h
  exact ⟨hx, ho, A, n, c, (hk p (lt_of_block hb) hx).trans hb, hy.kept fun g hA hlt => hk g hlt (hg g hA).1, hg⟩
theorem SysG.kept {w w' : World} {X : Nat → Prop} {G : Lay} {TT : Nat → Option Tb} (h : SysG w X G TT) (hk : ∀ i, i < w.heap.size → X i → w'.heap[i]? = w.heap[i]?) : SysG w' X G TT := by
  intro b T hT
  obtain ⟨h1, h2, h3, h4, h5⟩ := h b T hT
  obtain ⟨es, cl, hes⟩ := h2.is
  exact ⟨h1, h2.kept (hk b (lt_of_block hes) h1), h3, h4, fun e he => (h5 e he).kept hk⟩
theorem SysT.kept {w w' : World} {X : Nat → Prop} {TT : Nat → Option Tb} (h : SysT w X TT) (hk : ∀ i, i < w.heap.size → X i → w'.heap[i]? = w.heap[i]?) : SysT w' X TT := by
  obtain ⟨G, hG⟩ := h
  exact ⟨G, hG.kept hk⟩
theorem SysG.below {w w' : World} {X : Nat → Prop} {G : Lay} {TT : Nat → Option Tb} (h : SysG w X G TT) (hb : Below w.heap.size w w') : SysG w' X G TT := h.kept fun i hi _ => hb.block i hi
theorem SysT.below {w w' : World} {X : Nat → Prop} {TT : Nat → Option Tb} (h : SysT w X TT) (hb : Below w.heap.size w w') : SysT w' X TT := h.kept fun i hi _ => hb.block i hi
theorem SysG.more {w : World} {X Y : Nat → Prop} {G : Lay} {TT : Nat → Option Tb} (h : SysG w X G TT) (hk : ∀ i, X i → Y i) : SysG w Y G TT := by
  intro b T hT
  obtain ⟨h1, h2, h3, h4, h5⟩ := h b T hT
  refine ⟨hk _ h1, h2, h3, h4, fun e he => ?_⟩
  obtain ⟨hx, ho, A, n, c, hb, hy, hg⟩ := h5 e he
  exact ⟨hk _ hx, ho, A, n, c, hb, hy, fun g hA => ⟨hk _ (hg g hA).1, (hg g hA).2⟩⟩
theorem SysT.more {w : World} {X Y : Nat → Prop} {TT : Nat → Option Tb} (h : SysT w X TT) (hk : ∀ i, X i → Y i) : SysT w Y TT := by
  obtain ⟨G, hG⟩ := h
  exact ⟨G, hG.more hk⟩
theorem SysT.sub {w : World} {X : Nat → Prop} {TT TT' : Nat → Option Tb} (h : SysT w X TT) (hk : ∀ b T, TT' b = some T → TT b = some T) : SysT w X TT' := by
  obtain ⟨G, hG⟩ := h
  exact ⟨G, fun b T hT => hG b T (hk b T hT)⟩
theorem SysG.tab {w : World} {X : Nat → Prop} {G : Lay} {TT : Nat → Option Tb} {b : Nat} {T : Tb} (h : SysG w X G TT) (hT : TT b = some T) : Tab w b (G.tab b) := (h b T hT).2.1
theorem SysG.get {w : World} {X : Nat → Prop} {G : Lay} {TT : Nat → Option Tb} {b : Nat} {T : Tb} (h : SysG w X G TT) (hT : TT b = some T) (k : Nm) : fi.get k T = (fi.get k (G.tab b)).map G.cont := by
  rw [(h b T hT).2.2.2.1]
  exact get_map G.cont k (G.tab b)
theorem SysG.keyed {w : World} {X : Nat → Prop} {G : Lay} {TT : Nat → Option Tb} {b : Nat} {T : Tb} (h : SysG w X G TT) (hT : TT b = some T) : Rising T := by
  rw [(h b T hT).2.2.2.1]
  exact rising_map (h.tab hT).rising
theorem SysT.rising {w : World} {X : Nat → Prop} {TT : Nat → Option Tb} {b : Nat} {T : Tb} (h : SysT w X TT) (hT : TT b = some T) : Rising T := by
  obtain ⟨G, hG⟩ := h
  exact hG.keyed hT
theorem SysT.look_none {w : World} {X : Nat → Prop} {TT : Nat → Option Tb} {b : Nat} {T : Tb} (h : SysT w X TT) (hT : TT b = some T) {k : Nm} (hk : k.length ≤ maxLen) (hn : fi.get k T = none) :
    (Instr.lookup 52 (.map (some b)) (.string (str k)) false).run Try.prog w = .ok (.pointer none) w := by
  obtain ⟨G, hG⟩ := h
  have h1 := (hG.tab hT).look hk
  rw [hG.get hT] at hn
  rw [h1, Option.map_eq_none_iff.1 hn]
  rfl
/-- The file that stands at k. -/
theorem SysG.file {w : World} {X : Nat → Prop} {G : Lay} {TT : Nat → Option Tb} {b : Nat} {T : Tb} (h : SysG w X G TT) (hT : TT b = some T) {k : Nm} {f : Fl} (hf : fi.get k T = some f) :
    ∃ p A n c, fi.get k (G.tab b) = some p ∧ X p ∧ BlkF w p A n c f.2 ∧ Byt w A n c f.1 ∧ G.cont p = f ∧ ∀ g, A = some ⟨g, 0, none⟩ → X g ∧ n ≤ G.len g ∧ (c = n ∨ (n = G.len g ∧ G.tail g = p)) := by
  rw [h.get hT] at hf
  obtain ⟨p, hp, rfl⟩ := Option.map_eq_some_iff.1 hf
  obtain ⟨hx, ho, A, n, c, hb, hy, hg⟩ := (h b T hT).2.2.2.2 (k, p) (get_some hp)
  exact ⟨p, A, n, c, hp, hx, hb, hy, rfl, hg⟩

theorem tabs_ne {w : World} {b p : Nat} {L : List (Nm × Nat)} {A : Option Addr} {n c : Nat} {d : Bool} (h : Tab w b L) (hp : BlkF w p A n c d) : p ≠ b := by
  rintro rfl
  obtain ⟨es, cl, he⟩ := h.is
  unfold BlkF at hp
  rw [he] at hp
  cases hp
theorem bytes_ne {w : World} {g p : Nat} {cur : Array Value} {A : Option Addr} {n c : Nat} {d : Bool} (h : w.heap[g]? = some (.cells cur 5 (0, 0))) (hp : BlkF w p A n c d) : p ≠ g := by
  rintro rfl
  unfold BlkF at hp
  rw [h] at hp
  simp at hp
theorem tab_bytes_ne {w : World} {b g : Nat} {L : List (Nm × Nat)} {cur : Array Value} (h : Tab w b L) (hg : w.heap[g]? = some (.cells cur 5 (0, 0))) : g ≠ b := by
  rintro rfl
  obtain ⟨es, cl, he⟩ := h.is
  rw [he] at hg
  cases hg

theorem apart_eq {α β : Type} : ∀ {l : List (α × β)}, l.Pairwise (fun p q => p.2 ≠ q.2) → ∀ {x y : α × β}, x ∈ l → y ∈ l → x.2 = y.2 → x = y
  | [], _, _, _, hx, _, _ => by simp at hx
  | a :: r, h, x, y, hx, hy, e => by
    obtain ⟨h1, h2⟩ := List.pairwise_cons.1 h
    rcases List.mem_cons.1 hx with rfl | hx'
    · rcases List.mem_cons.1 hy with rfl | hy'
      · rfl
      · exact absurd e (h1 y hy')
    · rcases List.mem_cons.1 hy with rfl | hy'
      · exact absurd e.symm (h1 x hx')
      · exact apart_eq h2 hx' hy' e

/-- A file that stands at k is written: to a row of its own, or to the row that it had. -/
theorem SysG.write {w w' : World} {X : Nat → Prop} {G : Lay} {TT : Nat → Option Tb} {b : Nat} {T : Tb} (h : SysG w X G TT) (hT : TT b = some T) {k : Nm} {p : Nat} {A : Option Addr} {n c : Nat} {d : Bool} (hp : fi.get k (G.tab b) = some p)
    (hbp : BlkF w p A n c d) {A' : Option Addr} {n' c' : Nat} {f' : Fl} (hbp' : BlkF w' p A' n' c' f'.2) (hy' : Byt w' A' n' c' f'.1)
    (G' : Lay) (hG1 : G'.tab = G.tab) (hG2 : G'.own = G.own) (hG3 : ∀ q, q ≠ p → G'.cont q = G.cont q) (hG4 : G'.cont p = f')
    (hx' : ∀ g, A' = some ⟨g, 0, none⟩ → ext X w w' g ∧ n' ≤ G'.len g ∧ (c' = n' ∨ (n' = G'.len g ∧ G'.tail g = p)))
    (hkeep : ∀ i, i < w.heap.size → i ≠ p → X i → ((∃ cs, w.heap[i]? = some (.cells cs 5 (0, 0))) ∨ w'.heap[i]? = w.heap[i]?))
    (hrows : ∀ q, q ≠ p → ∀ Aq nq cq lq, BlkF w q Aq nq cq (G.cont q).2 → Byt w Aq nq cq lq → (∀ g, Aq = some ⟨g, 0, none⟩ → X g ∧ nq ≤ G.len g ∧ (cq = nq ∨ (nq = G.len g ∧ G.tail g = q))) →
      Byt w' Aq nq cq lq ∧ ∀ g, Aq = some ⟨g, 0, none⟩ → nq ≤ G'.len g ∧ (cq = nq ∨ (nq = G'.len g ∧ G'.tail g = q))) :
    SysG w' (ext X w w') G' (upd TT b (fi.mod k (fun _ => f') T)) := by
  have hmem := get_some hp
  have htab0 := h b T hT
  intro b2 T2 hT2
  have hT1 : ∃ T1, TT b2 = some T1 := by
    by_cases e : b2 = b
    · subst e; exact ⟨T, hT⟩
    · rw [upd_other _ _ e] at hT2; exact ⟨T2, hT2⟩
  obtain ⟨T1, hT1⟩ := hT1
  obtain ⟨h1, h2, h3, h4, h5⟩ := h b2 T1 hT1
  have hTab : Tab w' b2 (G'.tab b2) := by
    rw [hG1]
    obtain ⟨es, cl, hes⟩ := h2.is
    rcases hkeep b2 (lt_of_block hes) (Ne.symm (tabs_ne h2 hbp)) h1 with ⟨cs, hcs⟩ | hk
    · rw [hes] at hcs; cases hcs
    · exact h2.kept hk
  refine ⟨ext_old h1, hTab, by rw [hG1]; exact h3, ?_, fun e he => ?_⟩
  · rw [hG1]
    by_cases e : b2 = b
    · subst e
      rw [upd_same] at hT2
      cases hT2
      rw [hT] at hT1
      cases hT1
      rw [h4]
      unfold fi.mod
      rw [List.map_map]
      refine List.map_congr_left fun e he => ?_
      have hap := h2.apart
      simp only [Function.comp]
      by_cases hk : e.1 = k
      · have : e.2 = p := by
          have := get_of_mem (k := e.1) (v := e.2) hap he
          rw [hk, hp] at this
          exact (Option.some.inj this).symm
        rw [if_pos hk, this, hG4]
      · have : e.2 ≠ p := fun e2 => by
          exact hk (congrArg Prod.fst (apart_eq h3 he hmem e2))
        rw [if_neg hk, hG3 _ this]
    · rw [upd_other _ _ e, hT1] at hT2
      cases hT2
      rw [h4]
      refine List.map_congr_left fun e1 he => ?_
      have : e1.2 ≠ p := fun e2 => by
        have a1 := (h5 e1 he).2.1
        have a2 := (htab0.2.2.2.2 _ hmem).2.1
        rw [e2] at a1
        exact e (a1.symm.trans a2)
      rw [hG3 _ this]
  · rw [hG1] at he
    obtain ⟨hx, ho, Aq, nq, cq, hb, hy, hg⟩ := h5 e he
    by_cases hq : e.2 = p
    · rw [hq] at ho ⊢
      refine ⟨ext_old (by rw [← hq]; exact hx), by rw [hG2]; exact ho, A', n', c', by rw [hG4]; exact hbp', by rw [hG4]; exact hy', hx'⟩
    · obtain ⟨r1, r2⟩ := hrows e.2 hq Aq nq cq _ hb hy hg
      have hb' : BlkF w' e.2 Aq nq cq (G.cont e.2).2 := by
        rcases hkeep e.2 (lt_of_block hb) hq hx with ⟨cs, hcs⟩ | hk
        · exact absurd rfl (bytes_ne hcs hb)
        · exact hk.trans hb
      exact ⟨ext_old hx, by rw [hG2]; exact ho, Aq, nq, cq, by rw [hG3 _ hq]; exact hb', by rw [hG3 _ hq]; exact r1, fun g hA => ⟨ext_old (hg g hA).1, r2 g hA⟩⟩

def put1 {α : Type} (f : Nat → α) (i : Nat) (v : α) : Nat → α := fun j => if j = i then v else f j
theorem put1_same {α : Type} (f : Nat → α) (i : Nat) (v : α) : put1 f i v i = v := by simp [put1]
theorem put1_other {α : Type} (f : Nat → α) {i j : Nat} (v : α) (h : j ≠ i) : put1 f i v j = f j := by simp [put1, h]

/-- .. to a new row. -/
theorem SysG.write_new {w w' : World} {X : Nat → Prop} {G : Lay} {TT : Nat → Option Tb} {b : Nat} {T : Tb} (h : SysG w X G TT) (hT : TT b = some T) {k : Nm} {p : Nat} {A : Option Addr} {n c : Nat} {d : Bool} (hp : fi.get k (G.tab b) = some p)
    (hbp : BlkF w p A n c d) {g' n' c' : Nat} {f' : Fl} (hbp' : BlkF w' p (some ⟨g', 0, none⟩) n' c' f'.2) (hy' : Byt w' (some ⟨g', 0, none⟩) n' c' f'.1) (hnew : w.heap.size ≤ g')
    (hkeep : ∀ i, i < w.heap.size → i ≠ p → w'.heap[i]? = w.heap[i]?) :
    SysT w' (ext X w w') (upd TT b (fi.mod k (fun _ => f') T)) := by
  obtain ⟨cur, hcur, _⟩ := hy'.lt rfl
  refine ⟨{ G with cont := put1 G.cont p f', len := put1 G.len g' n', tail := put1 G.tail g' p }, h.write hT hp hbp hbp' hy' _ rfl rfl (fun q hq => put1_other _ _ hq) (put1_same _ _ _) (fun g hg => ?_) (fun i hi hne _ => .inr (hkeep i hi hne)) (fun q hq Aq nq cq lq hb hy hg => ?_)⟩
  · cases hg
    exact ⟨.inr ⟨hnew, lt_of_block hcur⟩, by simp [put1], .inr (by simp [put1])⟩
  · have hrow : ∀ g, Aq = some ⟨g, 0, none⟩ → g < w.heap.size := fun g hA => by obtain ⟨cur, hc, _⟩ := hy.lt hA; exact lt_of_block hc
    refine ⟨hy.kept fun g hA hlt => hkeep g hlt fun e => ?_, fun g hA => ?_⟩
    · subst e
      obtain ⟨cur, hc, _⟩ := hy.lt hA
      exact absurd rfl (bytes_ne hc hbp)
    · have := hrow g hA
      show nq ≤ put1 G.len g' n' g ∧ _
      rw [put1_other _ _ (by omega)]
      refine ⟨(hg g hA).2.1, ?_⟩
      show cq = nq ∨ (nq = put1 G.len g' n' g ∧ put1 G.tail g' p g = q)
      rw [put1_other _ _ (by omega), put1_other _ _ (by omega)]
      exact (hg g hA).2.2

/-- .. to the row that it had: behind its bytes, or less of them. -/
theorem SysG.write_same {w w' : World} {X : Nat → Prop} {G : Lay} {TT : Nat → Option Tb} {b : Nat} {T : Tb} (h : SysG w X G TT) (hT : TT b = some T) {k : Nm} {p : Nat} {A : Option Addr} {n c : Nat} {d : Bool} (hp : fi.get k (G.tab b) = some p)
    (hbp : BlkF w p A n c d) (hA : ∀ g, A = some ⟨g, 0, none⟩ → X g ∧ n ≤ G.len g ∧ (c = n ∨ (n = G.len g ∧ G.tail g = p)))
    {n' c' : Nat} {f' : Fl} (hbp' : BlkF w' p A n' c' f'.2) (hy' : Byt w' A n' c' f'.1)
    (hkeep : ∀ i, i < w.heap.size → i ≠ p → (∀ g, A = some ⟨g, 0, none⟩ → i ≠ g) → w'.heap[i]? = w.heap[i]?)
    (hrow : ∀ g cur, A = some ⟨g, 0, none⟩ → w.heap[g]? = some (.cells cur 5 (0, 0)) → ∃ cur', w'.heap[g]? = some (.cells cur' 5 (0, 0)) ∧ cur'.size = cur.size ∧ ∀ m, m ≤ G.len g → cur'.toList.take m = cur.toList.take m)
    (hn : (c' = n' ∧ n' ≤ n) ∨ (c' = c ∧ n ≤ n' ∧ (n < c ∨ n' = n))) :
    SysT w' (ext X w w') (upd TT b (fi.mod k (fun _ => f') T)) := by
  have hlen : ∃ L : Nat → Nat, (∀ g, A ≠ some ⟨g, 0, none⟩ → L g = G.len g) ∧ ∀ g, A = some ⟨g, 0, none⟩ → G.len g ≤ L g ∧ n' ≤ L g ∧ (c' = n' ∨ (n' = L g ∧ G.tail g = p)) ∧ (G.len g = L g ∨ G.tail g = p) := by
    rcases hn with ⟨h1, h2⟩ | ⟨h1, h2, h3⟩
    · exact ⟨G.len, fun _ _ => rfl, fun g hg => ⟨Nat.le_refl _, Nat.le_trans h2 (hA g hg).2.1, .inl h1, .inl rfl⟩⟩
    · by_cases e : n' = n
      · subst e
        refine ⟨G.len, fun _ _ => rfl, fun g hg => ⟨Nat.le_refl _, (hA g hg).2.1, ?_, .inl rfl⟩⟩
        rw [h1]
        exact (hA g hg).2.2
      · have h4 : n < c := by rcases h3 with h3 | h3 <;> omega
        by_cases hex : ∃ g, A = some ⟨g, 0, none⟩
        · obtain ⟨g, hg⟩ := hex
          have hx := (hA g hg).2.2
          have hx2 : n = G.len g ∧ G.tail g = p := by rcases hx with hx | hx; · omega
                                                      · exact hx
          refine ⟨put1 G.len g n', fun g2 hg2 => put1_other _ _ (fun e2 => hg2 (by rw [e2]; exact hg)), fun g2 hg2 => ?_⟩
          have : g2 = g := by rw [hg] at hg2; cases hg2; rfl
          subst this
          rw [put1_same]
          exact ⟨by omega, Nat.le_refl _, .inr ⟨rfl, hx2.2⟩, .inr hx2.2⟩
        · exact ⟨G.len, fun _ _ => rfl, fun g hg => absurd ⟨g, hg⟩ hex⟩
  obtain ⟨L, hL1, hL2⟩ := hlen
  refine ⟨{ G with cont := put1 G.cont p f', len := L }, h.write hT hp hbp hbp' hy' _ rfl rfl (fun q hq => put1_other _ _ hq) (put1_same _ _ _) (fun g hg => ⟨ext_old (hA g hg).1, (hL2 g hg).2.1, (hL2 g hg).2.2.1⟩) (fun i hi hne hXi => ?_) (fun q hq Aq nq cq lq hb hy hg => ?_)⟩
  · by_cases hi2 : ∃ g, A = some ⟨g, 0, none⟩ ∧ i = g
    · obtain ⟨g, hg, rfl⟩ := hi2
      by_cases hcu : ∃ cs, w.heap[i]? = some (.cells cs 5 (0, 0))
      · exact .inl hcu
      · rcases hy'.2.2.2 with ⟨e, _⟩ | ⟨g3, cur3, e3, h3, _⟩
        · rw [hg] at e; cases e
        · -- the row was one of bytes ahead of the step, too: its file said so
          obtain ⟨hx, ho, A0, n0, c0, hb0, hy0, _⟩ := (h b T hT).2.2.2.2 (k, p) (get_some hp)
          have : A0 = A := by unfold BlkF at hb0 hbp; rw [hbp] at hb0; simp at hb0; exact hb0.1.1.symm
          subst this
          obtain ⟨cur, hc, _⟩ := hy0.lt hg
          exact absurd ⟨cur, hc⟩ hcu
    · exact .inr (hkeep i hi hne fun g hg e => hi2 ⟨g, hg, e⟩)
  · refine ⟨?_, fun g hAq => ?_⟩
    · rcases hy.2.2.2 with hno | ⟨g, cur, rfl, hcur, hcs, htk⟩
      · exact ⟨hy.1, hy.2.1, hy.2.2.1, .inl hno⟩
      · by_cases e : A = some ⟨g, 0, none⟩
        · obtain ⟨cur', h1, h2, h3⟩ := hrow g cur e hcur
          exact ⟨hy.1, hy.2.1, hy.2.2.1, .inr ⟨g, cur', rfl, h1, by omega, by rw [h3 _ (hg g rfl).2.1]; exact htk⟩⟩
        · refine hy.kept fun g2 hg2 hlt => hkeep g2 hlt ?_ fun g3 hg3 e3 => e ?_
          · cases hg2
            exact Ne.symm (bytes_ne hcur hbp)
          · cases hg2
            rw [hg3, e3]
    · by_cases e : A = some ⟨g, 0, none⟩
      · obtain ⟨l1, l2, l3, l4⟩ := hL2 g e
        refine ⟨Nat.le_trans (hg g hAq).2.1 l1, ?_⟩
        rcases (hg g hAq).2.2 with h1 | ⟨h1, h2⟩
        · exact .inl h1
        · rcases l4 with l4 | l4
          · exact .inr ⟨by rw [h1, l4], h2⟩
          · exact absurd (h2.symm.trans l4) hq
      · show nq ≤ L g ∧ (cq = nq ∨ (nq = L g ∧ G.tail g = q))
        rw [hL1 g e]
        exact (hg g hAq).2
end Go.Proofs.Ytpbgckpjgfjmgaa.gn
