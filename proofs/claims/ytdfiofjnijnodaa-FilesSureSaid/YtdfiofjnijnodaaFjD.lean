/- The document's directory in memory; New, Sync, Left, short. -/
import Derived.Test.YtdfiofjnijnodaaFjC
set_option linter.unusedVariables false
namespace Go.Proofs.Ytdfiofjnijnodaa.gn
open Go.RowKit
open Go.Proofs.Ytdfiofjnijnodaa.fi

/-- An operation of the document's. -/
abbrev DO := Int × ByteArray × ByteArray × Int
def flatO (O : List DO) : List Value := O.flatMap fun o => [.int .i64 o.1, .string o.2.1, .string o.2.2.1, .int .i64 o.2.2.2]
theorem flatO_cons (o : DO) (O : List DO) : flatO (o :: O) = .int .i64 o.1 :: .string o.2.1 :: .string o.2.2.1 :: .int .i64 o.2.2.2 :: flatO O := rfl
theorem flatO_app (L M : List DO) : flatO (L ++ M) = flatO L ++ flatO M := by simp [flatO]
theorem flatO_len (L : List DO) : (flatO L).length = L.length * 4 := by
  induction L with
  | nil => rfl
  | cons c r ih => rw [flatO_cons]; simp only [List.length_cons, ih]; omega
theorem flatO_one (L : List DO) : ∀ u ∈ flatO L, u.oneCell' = true := by
  induction L with
  | nil => intro u hu; cases hu
  | cons c r ih =>
    intro u hu
    rw [flatO_cons] at hu
    simp only [List.mem_cons] at hu
    rcases hu with rfl | rfl | rfl | rfl | hu
    · rfl
    · rfl
    · rfl
    · rfl
    · exact ih u hu
theorem flatO_at {f : DO} : ∀ (L : List DO) (i : Nat), L[i]? = some f → (flatO L)[i * 4]? = some (.int .i64 f.1) ∧ (flatO L)[i * 4 + 1]? = some (.string f.2.1) ∧ (flatO L)[i * 4 + 2]? = some (.string f.2.2.1) ∧ (flatO L)[i * 4 + 3]? = some (.int .i64 f.2.2.2)
  | [], i, h => by simp at h
  | c :: r, 0, h => by
    simp only [List.getElem?_cons_zero, Option.some.injEq] at h
    subst h
    exact ⟨rfl, rfl, rfl, rfl⟩
  | c :: r, i + 1, h => by
    have := flatO_at r i (by simpa using h)
    rw [flatO_cons, show (i + 1) * 4 = i * 4 + 1 + 1 + 1 + 1 by omega]
    simpa using this
def OR (w : World) (B : Nat) (v : Value) (O : List DO) : Prop := w.ownsRow B 61 4 v O.length (flatO O)
theorem OR.below {w w' : World} {B : Nat} {v : Value} {L : List DO} (h : OR w B v L) (hb : Below w.heap.size w w') : OR w' B v L := row_below h hb
theorem OR.mono {w : World} {B B' : Nat} {v : Value} {L : List DO} (h : OR w B v L) (hB : B' ≤ B) : OR w B' v L := row_mono h hB
theorem OR.form {w : World} {B : Nat} {v : Value} {L : List DO} (h : OR w B v L) : (v = .slice none 0 0 ∧ L = []) ∨ ∃ g c, v = .slice (some ⟨g, 0, none⟩) L.length c ∧ B ≤ g ∧ L.length ≤ c ∧ c ≤ maxLen := by
  rcases h.2 with ⟨rfl, hn⟩ | ⟨g, cap, cur, rfl, hb, _, h1, h2, _⟩
  · exact .inl ⟨rfl, List.eq_nil_of_length_eq_zero hn⟩
  · exact .inr ⟨g, cap, rfl, hb, h1, h2⟩
theorem OR.shape {w : World} {B : Nat} {v : Value} {L : List DO} (h : OR w B v L) : ∃ A c, v = .slice A L.length c := own_form h
theorem OR.cells {w : World} {B g n c : Nat} {L : List DO} (h : OR w B (.slice (some ⟨g, 0, none⟩) n c) L) {i : Nat} {f : DO} (hi : L[i]? = some f) :
    w.cell? ⟨g, i * 4, none⟩ = some (.int .i64 f.1) ∧ w.cell? ⟨g, i * 4 + 1, none⟩ = some (.string f.2.1) ∧ w.cell? ⟨g, i * 4 + 2, none⟩ = some (.string f.2.2.1) ∧ w.cell? ⟨g, i * 4 + 3, none⟩ = some (.int .i64 f.2.2.2) := by
  obtain ⟨h1, h2, h3, h4⟩ := flatO_at L i hi
  have k1 := World.ownsRow.cells h (g := g) rfl _ _ h1
  have k2 := World.ownsRow.cells h (g := g) rfl _ _ h2
  have k3 := World.ownsRow.cells h (g := g) rfl _ _ h3
  have k4 := World.ownsRow.cells h (g := g) rfl _ _ h4
  have hadd : ∀ j, (⟨g, 0, none⟩ : Addr).add j = ⟨g, j, none⟩ := fun j => by unfold Addr.add; split <;> simp_all
  rw [hadd] at k1 k2 k3 k4
  exact ⟨k1, k2, k3, k4⟩

/-- The document's directory: its block. -/
def DocB (w : World) (q : Nat) (vn vs vo : Value) (r : Int) : Prop := w.heap[q]? = some (.cells #[vn, vs, vo, .int .i64 r] 59 (0, 0))
theorem DocB.cells {w : World} {q : Nat} {vn vs vo : Value} {r : Int} (h : DocB w q vn vs vo r) :
    w.cell? ⟨q, 0, none⟩ = some vn ∧ w.cell? ⟨q, 1, none⟩ = some vs ∧ w.cell? ⟨q, 2, none⟩ = some vo ∧ w.cell? ⟨q, 3, none⟩ = some (.int .i64 r) :=
  ⟨by rw [cell_of_row w q 0 _ _ _ h]; rfl, by rw [cell_of_row w q 1 _ _ _ h]; rfl, by rw [cell_of_row w q 2 _ _ _ h]; rfl, by rw [cell_of_row w q 3 _ _ _ h]; rfl⟩
theorem DocB.free {w : World} {q : Nat} {vn vs vo : Value} {r : Int} (h : DocB w q vn vs vo r) (j : Nat) : w.frozen? ⟨q, j, none⟩ = false := frozen_of_row w q j _ _ h
theorem DocB.below {w w' : World} {q : Nat} {vn vs vo : Value} {r : Int} (h : DocB w q vn vs vo r) (hb : Below w.heap.size w w') : DocB w' q vn vs vo r := (hb.block q (lt_of_block h)).trans h
theorem DocB.set0 {w : World} {q : Nat} {vn vs vo : Value} {r : Int} (h : DocB w q vn vs vo r) (v : Value) : DocB (w.setCell ⟨q, 0, none⟩ v) q v vs vo r := heap_setCell h _
theorem DocB.set1 {w : World} {q : Nat} {vn vs vo : Value} {r : Int} (h : DocB w q vn vs vo r) (v : Value) : DocB (w.setCell ⟨q, 1, none⟩ v) q vn v vo r := heap_setCell h _
theorem DocB.set2 {w : World} {q : Nat} {vn vs vo : Value} {r : Int} (h : DocB w q vn vs vo r) (v : Value) : DocB (w.setCell ⟨q, 2, none⟩ v) q vn vs v r := heap_setCell h _
/-- What is known of it behind at most K acts. -/
structure DocI (w : World) (Y : Nat → Prop) (q K : Nat) (vn vs vo : Value) (r : Int) (N S : List DF) (O : List DO) : Prop where
  blk : DocB w q vn vs vo r
  y : Y q
  n : FR w 0 vn N
  s : FR w 0 vs S
  o : OR w 0 vo O
  yn : ∀ g, vn.ownBlock = some g → Y g
  ys : ∀ g, vs.ownBlock = some g → Y g
  yo : ∀ g, vo.ownBlock = some g → Y g
  r0 : 0 ≤ r
  r1 : r ≤ 16777216
  ln : N.length ≤ K
  ls : S.length + O.length ≤ K
  bn : Bd (300 * K) N
  bs : ∃ M, Bd M S ∧ M + 300 * O.length ≤ 300 * K
  bo : ∀ o ∈ O, (0 ≤ o.1 ∧ o.1 ≤ 4) ∧ o.2.2.1.size ≤ 300
def Doc (w : World) (Y : Nat → Prop) (q K : Nat) : Prop := ∃ vn vs vo r N S O, DocI w Y q K vn vs vo r N S O
theorem FR.kept {w w' : World} {B : Nat} {v : Value} {L : List DF} (h : FR w B v L) (hk : ∀ g, v.ownBlock = some g → g < w.heap.size → ∀ cs, w.heap[g]? = some (.cells cs 88 (0, 0)) → w'.heap[g]? = w.heap[g]?) : FR w' B v L :=
  row_kept h fun g cs hg hh => (hk g hg (lt_of_block hh) cs hh).trans hh
theorem OR.kept {w w' : World} {B : Nat} {v : Value} {L : List DO} (h : OR w B v L) (hk : ∀ g, v.ownBlock = some g → g < w.heap.size → ∀ cs, w.heap[g]? = some (.cells cs 61 (0, 0)) → w'.heap[g]? = w.heap[g]?) : OR w' B v L :=
  row_kept h fun g cs hg hh => (hk g hg (lt_of_block hh) cs hh).trans hh
theorem DocI.kept {w w' : World} {Y : Nat → Prop} {q K : Nat} {vn vs vo : Value} {r : Int} {N S : List DF} {O : List DO} (h : DocI w Y q K vn vs vo r N S O) (hk : ∀ i, i < w.heap.size → Y i → w'.heap[i]? = w.heap[i]?) : DocI w' Y q K vn vs vo r N S O :=
  ⟨(hk q (lt_of_block h.blk) h.y).trans h.blk, h.y, h.n.kept fun g hg hl _ _ => hk g hl (h.yn g hg), h.s.kept fun g hg hl _ _ => hk g hl (h.ys g hg), h.o.kept fun g hg hl _ _ => hk g hl (h.yo g hg), h.yn, h.ys, h.yo, h.r0, h.r1, h.ln, h.ls, h.bn, h.bs, h.bo⟩
theorem Doc.kept {w w' : World} {Y : Nat → Prop} {q K : Nat} (h : Doc w Y q K) (hk : ∀ i, i < w.heap.size → Y i → w'.heap[i]? = w.heap[i]?) : Doc w' Y q K := by
  obtain ⟨vn, vs, vo, r, N, S, O, h⟩ := h
  exact ⟨vn, vs, vo, r, N, S, O, h.kept hk⟩
theorem Doc.below {w w' : World} {Y : Nat → Prop} {q K : Nat} (h : Doc w Y q K) (hb : Below w.heap.size w w') : Doc w' Y q K := h.kept fun i hi _ => hb.block i hi
/-- A call on the document's directory has run. -/
def Ran (Y : Nat → Prop) (q K : Nat) (w : World) (w' : World) : Prop := Doc w' (ext Y w w') q K ∧ Only (fun i => i = q) w w'

set_option maxHeartbeats 4000000 in
theorem dnew_any5 (w : World) (r : Int) (h0 : 0 ≤ r) (h1 : r ≤ 16777216) (Y : Nat → Prop) (K : Nat) :
    Calls Try.prog 8 #[.int .i64 r] w fun e w' => e = .returned (.pointer (some ⟨w.heap.size, 0, none⟩)) ∧ Doc w' (ext Y w w') w.heap.size K ∧ Below w.heap.size w w' := by
  have hz : (w.alloc (.cells #[.slice none 0 0, .slice none 0 0, .slice none 0 0, .int .i64 r] 59)).heap.size = w.heap.size + 1 := by simp
  have hb : Below w.heap.size w (w.alloc (.cells #[.slice none 0 0, .slice none 0 0, .slice none 0 0, .int .i64 r] 59)) := (Below.refl _ w).alloc (Nat.le_refl _) _
  have hd : Doc (w.alloc (.cells #[.slice none 0 0, .slice none 0 0, .slice none 0 0, .int .i64 r] 59)) (ext Y w (w.alloc (.cells #[.slice none 0 0, .slice none 0 0, .slice none 0 0, .int .i64 r] 59))) w.heap.size K :=
    ⟨.slice none 0 0, .slice none 0 0, .slice none 0 0, r, [], [], [], heap_alloc_new w _, .inr ⟨Nat.le_refl _, by rw [hz]; omega⟩, ⟨rfl, .inl ⟨rfl, rfl⟩⟩, ⟨rfl, .inl ⟨rfl, rfl⟩⟩, ⟨rfl, .inl ⟨rfl, rfl⟩⟩, (fun g hg => by cases hg), (fun g hg => by cases hg), (fun g hg => by cases hg), h0, h1, Nat.zero_le _, Nat.zero_le _, (fun f hf => by cases hf), ⟨0, (fun f hf => by cases hf), by simp⟩, fun o ho => by cases ho⟩
  have HB := Lib.hid hb
  have HD := Lib.hid hd
  clear hb hd
  have h0' : ¬ r < 0 := by omega
  have h1' : ¬ 16777216 < r := by omega
  go_enter Try.func8, Try.ntmps8
  go_wp2
  go_ret
  exact ⟨rfl, HD.out, HB.out⟩

set_option maxHeartbeats 4000000 in
theorem dsync_any (w : World) (Y : Nat → Prop) (q K : Nat) (h : Doc w Y q K) :
    Calls Try.prog 24 #[.pointer (some ⟨q, 0, none⟩)] w fun e w' => e = .returned (.tuple #[]) ∧ Ran Y q K w w' := by
  obtain ⟨vn, vs, vo, r, N, S, O, h⟩ := h
  obtain ⟨c0, c1, c2, c3⟩ := h.blk.cells
  have f1 := h.blk.free 1
  have f2 := h.blk.free 2
  obtain ⟨A, n, c, rfl⟩ := h.n.shape
  have HH := Lib.hid h
  clear h
  go_enter Try.func24, Try.ntmps24
  go_wp2
  go_end0
  have h := HH.out
  have hk : ∀ i, i < w.heap.size → i ≠ q → ((w.setCell ⟨q, 1, none⟩ (.slice A n c)).setCell ⟨q, 2, none⟩ (.slice none 0 0)).heap[i]? = w.heap[i]? := fun i _ hi => (Below.heap_setCell _ _ _ _ hi).trans (Below.heap_setCell _ _ _ _ hi)
  have hq1 : ∀ g cs, w.heap[g]? = some (.cells cs 88 (0, 0)) → g ≠ q := fun g cs hh e => by
    have h1 := h.blk
    unfold DocB at h1
    rw [e, h1] at hh
    simp at hh
  refine ⟨rfl, ⟨.slice A n c, .slice A n c, .slice none 0 0, r, N, N, [], ?_⟩, ?_⟩
  · exact ⟨(h.blk.set1 _).set2 _, ext_old h.y, h.n.kept fun g hg hl cs hh => hk g hl (hq1 g cs hh), h.n.kept fun g hg hl cs hh => hk g hl (hq1 g cs hh), ⟨rfl, .inl ⟨rfl, rfl⟩⟩, fun g hg => ext_old (h.yn g hg), fun g hg => ext_old (h.yn g hg), (fun g hg => by cases hg), h.r0, h.r1, h.ln, (by have := h.ln; simpa using this), h.bn, ⟨300 * K, h.bn, by simp⟩, fun o ho => by cases ho⟩
  · exact ⟨rfl, rfl, rfl, by simp [World.setCell], fun i hi hq => hk i hi hq⟩

/-- The room that is left. -/
def leftZ (r : Int) (N : List DF) : Int := r - ((N.map fun f => f.2.1.size).sum : Nat)
theorem sum_bd {N : List DF} {M : Nat} (h : Bd M N) : (N.map fun f => f.2.1.size).sum ≤ M * N.length := by
  induction N with
  | nil => simp
  | cons f t ih =>
    have h1 := h f (List.mem_cons_self ..)
    have h2 := ih fun g hg => h g (List.mem_cons_of_mem _ hg)
    simp only [List.map_cons, List.sum_cons, List.length_cons, Nat.mul_succ]
    omega
theorem leftZ_snoc (r : Int) (N : List DF) (f : DF) : leftZ r (N ++ [f]) = leftZ r N - (f.2.1.size : Int) := by
  unfold leftZ
  rw [List.map_append, List.sum_append]
  simp
  omega

theorem sum_take {N : List DF} {k : Nat} (hk : k < N.length) : ((N.take (k + 1)).map fun f => f.2.1.size).sum = ((N.take k).map fun f => f.2.1.size).sum + (N[k]).2.1.size := by
  rw [List.take_succ_eq_append_getElem hk, List.map_append, List.sum_append]
  simp
theorem Bd.take {M : Nat} {L : List DF} (h : Bd M L) (k : Nat) : Bd M (L.take k) := fun f hf => h f (List.take_subset _ _ hf)

set_option maxHeartbeats 4000000 in
theorem dleft_any (w : World) (q : Nat) (vn vs vo : Value) (r : Int) (N : List DF) (h : DocB w q vn vs vo r) (hN : FR w 0 vn N) (hl : N.length ≤ 100000) (hbd : Bd 1000000 N) (h0 : 0 ≤ r) (h1 : r ≤ 16777216) :
    Calls Try.prog 44 #[.pointer (some ⟨q, 0, none⟩)] w fun e w' => e = .returned (.int .i64 (leftZ r N)) ∧ w' = w := by
  obtain ⟨c0, c1, c2, c3⟩ := h.cells
  rcases hN.form with ⟨rfl, rfl⟩ | ⟨g, c, rfl, _, hc, hcm⟩
  · clear h
    have e : leftZ r [] = r := by simp [leftZ]
    rw [e]
    go_enter Try.func44, Try.ntmps44
    go_wp2
    go_loop [3, 4] (fun n i => n = .int .i64 r ∧ i = .int .i64 0) (fun n i => 0)
    case atStart => exact ⟨rfl, rfl⟩
    case round =>
      obtain ⟨rfl, rfl⟩ := hrel
      go_wp2
      go_ret
      exact ⟨rfl, rfl⟩
  · have HF := Lib.hid hN
    have HB := Lib.hid hbd
    unfold maxLen at hcm
    clear h hN hbd
    go_enter Try.func44, Try.ntmps44
    go_wp2
    go_loop [3, 4] (fun n i => ∃ k : Nat, k ≤ N.length ∧ i = .int .i64 k ∧ n = .int .i64 (leftZ r (N.take k))) (fun n i => N.length - (intOf i).toNat)
    case atStart => exact ⟨0, Nat.zero_le _, rfl, by simp [leftZ]⟩
    case round =>
      obtain ⟨k, hk, rfl, rfl⟩ := hrel
      by_cases hlt : k < N.length
      · obtain ⟨f, hf⟩ : ∃ f, N[k]? = some f := ⟨N[k], List.getElem?_eq_getElem hlt⟩
        obtain ⟨d1, d2, d3⟩ := HF.out.cells hf
        have hsn : leftZ r (N.take (k + 1)) = leftZ r (N.take k) - (f.2.1.size : Int) := by
          rw [List.take_succ_eq_append_getElem hlt, leftZ_snoc]
          have := List.getElem?_eq_getElem hlt
          rw [hf] at this
          cases this
          rfl
        have hb1 := sum_bd (HB.out.take k)
        have hb3 : f.2.1.size ≤ 1000000 := HB.out f (List.mem_of_getElem? hf)
        have hb2 : (N.take k).length ≤ 100000 := by rw [List.length_take]; omega
        have hb4 : 1000000 * (N.take k).length ≤ 1000000 * 100000 := Nat.mul_le_mul_left _ hb2
        obtain ⟨z, hz⟩ : ∃ z, z = leftZ r (N.take k) := ⟨_, rfl⟩
        have hz1 : -100000000000 ≤ z := by rw [hz]; unfold leftZ; omega
        have hz2 : z ≤ 16777216 := by rw [hz]; unfold leftZ; omega
        rw [← hz] at hsn ⊢
        have HS := Lib.hid hsn
        clear hsn hb1 hb2 hb4 hz hf
        have hI : (0 : Int) ≤ (k : Int) := by omega
        have hI2 : (k : Int) < (N.length : Int) := by omega
        obtain ⟨x, y, u⟩ := f
        simp only at d1 d2 d3 hb3
        go_wp2
        go_round
        case rel => exact ⟨k + 1, by omega, by go_num, by rw [HS.out]⟩
        case measure => simp [intOf]; omega
      · have e : N.take k = N := List.take_of_length_le (by omega)
        rw [e]
        go_wp2
        go_ret
        exact ⟨rfl, rfl⟩
end Go.Proofs.Ytdfiofjnijnodaa.gn
